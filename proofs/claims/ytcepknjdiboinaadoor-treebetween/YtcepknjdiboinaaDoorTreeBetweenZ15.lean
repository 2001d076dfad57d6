/-
  tree.with: all its ways.
-/
import Derived.Test.YtcepknjdiboinaaDoorTreeBetweenZ11
import Derived.Test.YtcepknjdiboinaaDoorTreeBetweenZ12
import Derived.Test.YtcepknjdiboinaaDoorTreeBetweenZ13
import Derived.Test.YtcepknjdiboinaaDoorTreeBetweenZ14
namespace Go.Proofs.YtcepknjdiboinaaDoor
open Go.RowKit

theorem with_fuel : ∀ (N : Nat) (l : List It) (w : World) (v : Value) (x : It) (xo yo : Option Addr) (xn xc yn yc : Nat), l.length ≤ N → Sl w xo xn xc x.k → Sl w yo yn yc x.v → T w v l → Srt l → l.length ≤ 100000 →
    Calls Tryd.prog 33 #[v, .agg #[.int .i64 (lev x.k), .slice xo xn xc, .slice yo yn yc]] w (RetT w (ins l x)) := by
  intro N
  induction N with
  | zero =>
    intro l w v x xo yo xn xc yn yc hN hx hy hT hs hn
    rcases hT.is with ⟨rfl, rfl⟩ | ⟨d, segs, xs, rfl, h⟩
    · exact withO_any w x xo yo xn xc yn yc hx hy
    · have h1 := h.shp.pos
      have h2 := h.many
      omega
  | succ N ih =>
    intro l w v x xo yo xn xc yn yc hN hx hy hT hs hn
    rcases hT.is with ⟨rfl, rfl⟩ | ⟨d, segs, xs, rfl, h⟩
    · exact withO_any w x xo yo xn xc yn yc hx hy
    · rcases Nat.lt_trichotomy d.L (lev x.k) with hL | hL | hL
      · exact withN_any w x xo yo xn xc yn yc hx hy l d segs xs h hs hn hL
      · by_cases hk : has x.k l
        · obtain ⟨y, hy1, hy2⟩ := hk
          have hyx : y ∈ xs := by
            rw [h.shp.eq] at hy1
            rcases mem_weave _ _ _ hy1 with h1 | ⟨s, hs1, h1⟩
            · exact h1
            · have := h.shp.low s hs1 y h1
              rw [hy2] at this
              omega
          exact withV_any w x xo yo xn xc yn yc hx hy l d segs xs h hs hn hL ⟨y, hyx, hy2⟩
        · exact withM_any w x xo yo xn xc yn yc hx hy l d segs xs h hs hn hL hk
      · exact withK_any w x xo yo xn xc yn yc hx l d segs xs h hs hn hL (fun V u s hlt hV hu hss => ih s V u x xo yo xn xc yn yc (by omega) (hx.below hV) (hy.below hV) hu hss (by omega))
/-- tree.with, of whatever tree. -/
theorem with_any (w : World) (v : Value) (l : List It) (x : It) (xo yo : Option Addr) (xn xc yn yc : Nat) (hx : Sl w xo xn xc x.k) (hy : Sl w yo yn yc x.v) (hT : T w v l) (hs : Srt l) (hn : l.length ≤ 100000) :
    Calls Tryd.prog 33 #[v, .agg #[.int .i64 (lev x.k), .slice xo xn xc, .slice yo yn yc]] w (RetT w (ins l x)) := with_fuel l.length l w v x xo yo xn xc yn yc (Nat.le_refl _) hx hy hT hs hn
end Go.Proofs.YtcepknjdiboinaaDoor
