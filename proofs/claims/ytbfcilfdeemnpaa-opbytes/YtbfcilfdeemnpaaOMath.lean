/-
  Operations, requests, results: what is right, their bytes, and how they are read. No program is named here.
-/
import Derived.Test.YtbfcilfdeemnpaaParse
import Derived.Test.YtbfcilfdeemnpaaCConv
namespace Go.Proofs.Ytbfcilfdeemnpaa
open Go.RowKit

/-- An operation without its parts. -/
structure SO where
  kind : Int
  row : ByteArray
  fam : ByteArray
  qual : ByteArray
  time : Nat
  to : ByteArray
  value : List Int
  want : List Int
  has : Bool

/-- A text's form. -/
def txt (s : ByteArray) : List Int := enc s.size ++ sb s
def byts (l : List Int) : List Int := enc l.length ++ l
def pText (most : Nat) (xs : List Int) : Rs ByteArray := dress strOfNums (pBytes most xs)
theorem str_sb (s : ByteArray) : strOfNums (sb s) = s := sb_inj (sb_str (sb_byte s))
theorem good_text (most : Nat) (hm : most < 18446744073709551616) : Good (pText most) txt (fun s => s.size ≤ most) := by
  have h := (good_bytes most hm).map strOfNums sb (fun s => s.size ≤ most) (fun s hs => ⟨str_sb s, by rw [sb_len]; exact hs, sb_byte s⟩) (fun a ha => ⟨sb_str ha.2, by rw [← sb_len, sb_str ha.2]; exact ha.1⟩)
  refine h.only (fun _ => Iff.rfl) ?_
  intro s _
  unfold txt
  rw [sb_len]

/-- How many parts, and the operation. -/
abbrev SN := SO × Nat
def putS (o : SO) (n : Nat) : List Int := enc o.kind.toNat ++ (txt o.row ++ (txt o.fam ++ (txt o.qual ++ (enc o.time ++ (txt o.to ++ (byts o.value ++ (byts o.want ++ (enb o.has ++ enc n))))))))
structure SO.fits (o : SO) : Prop where
  kind : 0 ≤ o.kind ∧ o.kind ≤ 100
  row : o.row.size ≤ 32
  fam : o.fam.size ≤ 32
  qual : o.qual.size ≤ 32
  time : o.time < 18446744073709551616
  to : o.to.size ≤ 32
  value : o.value.length ≤ 256 ∧ Byt o.value
  want : o.want.length ≤ 256 ∧ Byt o.want
abbrev Raw := Nat × ByteArray × ByteArray × ByteArray × Nat × ByteArray × List Int × List Int × Bool × Nat
def toS (r : Raw) : SN := (⟨(r.1 : Int), r.2.1, r.2.2.1, r.2.2.2.1, r.2.2.2.2.1, r.2.2.2.2.2.1, r.2.2.2.2.2.2.1, r.2.2.2.2.2.2.2.1, r.2.2.2.2.2.2.2.2.1⟩, r.2.2.2.2.2.2.2.2.2)
def ofS (p : SN) : Raw := (p.1.kind.toNat, p.1.row, p.1.fam, p.1.qual, p.1.time, p.1.to, p.1.value, p.1.want, p.1.has, p.2)
def pRaw (most : Nat) : List Int → Rs Raw :=
  andThen (pInt 100) fun _ => andThen (pText 32) fun _ => andThen (pText 32) fun _ => andThen (pText 32) fun _ => andThen pUint fun _ => andThen (pText 32) fun _ => andThen (pBytes 256) fun _ => andThen (pBytes 256) fun _ => andThen pBool fun _ => pInt most
def pS (most : Nat) (xs : List Int) : Rs SN := dress toS (pRaw most xs)
theorem good_raw (most : Nat) (hm : most < 18446744073709551616) : Good (pRaw most) (fun r => enc r.1 ++ (txt r.2.1 ++ (txt r.2.2.1 ++ (txt r.2.2.2.1 ++ (enc r.2.2.2.2.1 ++ (txt r.2.2.2.2.2.1 ++ (byts r.2.2.2.2.2.2.1 ++ (byts r.2.2.2.2.2.2.2.1 ++ (enb r.2.2.2.2.2.2.2.2.1 ++ enc r.2.2.2.2.2.2.2.2.2)))))))))
    (fun r => r.1 ≤ 100 ∧ r.2.1.size ≤ 32 ∧ r.2.2.1.size ≤ 32 ∧ r.2.2.2.1.size ≤ 32 ∧ r.2.2.2.2.1 < 18446744073709551616 ∧ r.2.2.2.2.2.1.size ≤ 32 ∧ (r.2.2.2.2.2.2.1.length ≤ 256 ∧ Byt r.2.2.2.2.2.2.1) ∧ (r.2.2.2.2.2.2.2.1.length ≤ 256 ∧ Byt r.2.2.2.2.2.2.2.1) ∧ True ∧ r.2.2.2.2.2.2.2.2.2 ≤ most) :=
  (good_int 100 (by decide)).andThen fun _ _ => (good_text 32 (by decide)).andThen fun _ _ => (good_text 32 (by decide)).andThen fun _ _ => (good_text 32 (by decide)).andThen fun _ _ => good_uint.andThen fun _ _ => (good_text 32 (by decide)).andThen fun _ _ => (good_bytes 256 (by decide)).andThen fun _ _ => (good_bytes 256 (by decide)).andThen fun _ _ => good_bool.andThen fun _ _ => good_int most hm
theorem good_s (most : Nat) (hm : most < 18446744073709551616) : Good (pS most) (fun p => putS p.1 p.2) (fun p => p.1.fits ∧ p.2 ≤ most) := by
  refine (good_raw most hm).map toS ofS _ ?_ ?_
  · rintro ⟨o, n⟩ ⟨h, hn⟩
    have hk : 0 ≤ o.kind ∧ o.kind ≤ 100 := h.kind
    refine ⟨?_, ?_⟩
    · unfold toS ofS
      simp only [Int.toNat_of_nonneg hk.1]
    · exact ⟨by show o.kind.toNat ≤ 100; omega, h.row, h.fam, h.qual, h.time, h.to, h.value, h.want, trivial, hn⟩
  · rintro ⟨k, r, f, q, t, x, v, y, b, n⟩ ⟨h1, h2, h3, h4, h5, h6, h7, h8, _, h10⟩
    refine ⟨?_, ⟨⟨by show (0 : Int) ≤ (k : Int); omega, by show (k : Int) ≤ 100; simp only at h1; omega⟩, h2, h3, h4, h5, h6, h7, h8⟩, h10⟩
    unfold toS ofS
    simp

/-- An operation and its parts, none of which has parts. -/
abbrev OP := SO × List SO
def putP (p : OP) : List Int := putS p.1 p.2.length ++ (p.2.map (fun s => putS s 0)).flatten
def OP.fits (p : OP) : Prop := p.1.fits ∧ p.2.length ≤ 8 ∧ ∀ s ∈ p.2, s.fits
def toP (p : SN × List SN) : OP := (p.1.1, p.2.map Prod.fst)
def ofP (p : OP) : SN × List SN := ((p.1, p.2.length), p.2.map fun s => (s, 0))
def pP (xs : List Int) : Rs OP := dress toP (andThen (pS 8) (fun p => pRep (pS 0) p.2) xs)
theorem good_p : Good pP putP OP.fits := by
  have h := (good_s 8 (by decide)).andThen (Q := fun p => pRep (pS 0) p.2) (g := fun _ l => (l.map fun p => putS p.1 p.2).flatten) (okQ := fun p l => l.length = p.2 ∧ ∀ a ∈ l, a.1.fits ∧ a.2 ≤ 0) (fun a _ => (good_s 0 (by decide)).rep a.2)
  refine (h.map toP ofP OP.fits ?_ ?_).only (fun _ => Iff.rfl) ?_
  · rintro ⟨o, l⟩ ⟨h1, h2, h3⟩
    refine ⟨?_, ⟨h1, h2⟩, by simp [ofP], ?_⟩
    · unfold toP ofP
      simp [Function.comp_def]
    · intro a ha
      obtain ⟨s, hs, rfl⟩ := List.mem_map.1 ha
      exact ⟨h3 s hs, Nat.le_refl _⟩
  · rintro ⟨⟨o, n⟩, l⟩ ⟨⟨h1, h2⟩, h3, h4⟩
    simp only at h3 h4 h1 h2
    refine ⟨?_, h1, by show (l.map Prod.fst).length ≤ 8; rw [List.length_map]; omega, ?_⟩
    · unfold toP ofP
      simp only [List.length_map, h3, List.map_map]
      congr 1
      refine (List.map_congr_left fun a ha => ?_).trans (List.map_id l)
      have := (h4 a ha).2
      obtain ⟨s, m⟩ := a
      simp only [Function.comp_apply, id_eq]
      simp only at this
      rw [show m = 0 by omega]
    · intro s hs
      obtain ⟨a, ha, rfl⟩ := List.mem_map.1 hs
      exact (h4 a ha).1
  · rintro ⟨o, l⟩ _
    unfold putP ofP
    simp [Function.comp_def]

/-- A request: client, stamp, operation. -/
abbrev QV := Nat × Nat × OP
def putQ (q : QV) : List Int := enc q.1 ++ (enc q.2.1 ++ putP q.2.2)
def pQ : List Int → Rs QV := andThen pUint fun _ => andThen pUint fun _ => pP
theorem good_q : Good pQ putQ (fun q => q.1 < 18446744073709551616 ∧ q.2.1 < 18446744073709551616 ∧ q.2.2.fits) :=
  good_uint.andThen fun _ _ => good_uint.andThen fun _ _ => good_p

/-- A cell of a result. -/
structure CV where
  row : ByteArray
  fam : ByteArray
  qual : ByteArray
  time : Nat
  value : List Int
  gone : Bool
structure CV.fits (c : CV) : Prop where
  row : c.row.size ≤ 32
  fam : c.fam.size ≤ 32
  qual : c.qual.size ≤ 32
  time : c.time < 18446744073709551616
  value : c.value.length ≤ 256 ∧ Byt c.value
def putC (c : CV) : List Int := txt c.row ++ (txt c.fam ++ (txt c.qual ++ (enc c.time ++ (byts c.value ++ enb c.gone))))
def toC (r : ByteArray × ByteArray × ByteArray × Nat × List Int × Bool) : CV := ⟨r.1, r.2.1, r.2.2.1, r.2.2.2.1, r.2.2.2.2.1, r.2.2.2.2.2⟩
def ofC (c : CV) : ByteArray × ByteArray × ByteArray × Nat × List Int × Bool := (c.row, c.fam, c.qual, c.time, c.value, c.gone)
def pC (xs : List Int) : Rs CV := dress toC (andThen (pText 32) (fun _ => andThen (pText 32) fun _ => andThen (pText 32) fun _ => andThen pUint fun _ => andThen (pBytes 256) fun _ => pBool) xs)
theorem good_c : Good pC putC CV.fits := by
  have h := (good_text 32 (by decide)).andThen fun _ _ => (good_text 32 (by decide)).andThen fun _ _ => (good_text 32 (by decide)).andThen fun _ _ => good_uint.andThen fun _ _ => (good_bytes 256 (by decide)).andThen fun _ _ => good_bool
  refine (h.map toC ofC CV.fits ?_ ?_).only (fun _ => Iff.rfl) (fun _ _ => rfl)
  · intro c hc
    exact ⟨rfl, hc.row, hc.fam, hc.qual, hc.time, hc.value, trivial⟩
  · rintro ⟨a, b, c, t, v, g⟩ ⟨h1, h2, h3, h4, h5, _⟩
    exact ⟨rfl, h1, h2, h3, h4, h5⟩

/-- A result. -/
structure RV where
  e : Int
  cells : List CV
  more : Bool
def RV.fits (r : RV) : Prop := (0 ≤ r.e ∧ r.e ≤ 100) ∧ r.cells.length ≤ 16 ∧ ∀ c ∈ r.cells, c.fits
def putR (r : RV) : List Int := enc r.e.toNat ++ (enc r.cells.length ++ ((r.cells.map putC).flatten ++ enb r.more))
def toR (x : Nat × (Nat × List CV × Bool)) : RV := ⟨(x.1 : Int), x.2.2.1, x.2.2.2⟩
def ofR (r : RV) : Nat × (Nat × List CV × Bool) := (r.e.toNat, (r.cells.length, (r.cells, r.more)))
def pR (xs : List Int) : Rs RV := dress toR (andThen (pInt 100) (fun _ => andThen (pInt 16) fun n => andThen (pRep pC n) fun _ => pBool) xs)
theorem good_r : Good pR putR RV.fits := by
  have h := (good_int 100 (by decide)).andThen fun _ _ => (good_int 16 (by decide)).andThen (Q := fun n => andThen (pRep pC n) fun _ => pBool) fun n _ => (good_c.rep n).andThen fun _ _ => good_bool
  refine (h.map toR ofR RV.fits ?_ ?_).only (fun _ => Iff.rfl) (fun _ _ => rfl)
  · rintro ⟨e, cs, m⟩ ⟨⟨h1, h1'⟩, h2, h3⟩
    simp only at h1 h1' h2 h3
    refine ⟨?_, by show e.toNat ≤ 100; omega, h2, ⟨rfl, h3⟩, trivial⟩
    unfold toR ofR
    simp only [Int.toNat_of_nonneg h1]
  · rintro ⟨e, n, cs, m⟩ ⟨h1, h2, ⟨h3, h4⟩, _⟩
    simp only at h1 h2 h3 h4
    refine ⟨?_, ⟨by show (0 : Int) ≤ (e : Int); omega, by show (e : Int) ≤ 100; omega⟩, by show cs.length ≤ 16; omega, h4⟩
    unfold toR ofR
    simp [h3]
end Go.Proofs.Ytbfcilfdeemnpaa
