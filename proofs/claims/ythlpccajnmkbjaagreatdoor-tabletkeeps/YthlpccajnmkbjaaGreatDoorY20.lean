/-
  Texts in one: TbMath, RowL.
-/
import Derived.Test.YthlpccajnmkbjaaGreatDoorY14
import Derived.Test.YthlpccajnmkbjaaGreatDoorY2
import Derived.Test.YthlpccajnmkbjaaGreatDoorY5
import Derived.Test.YthlpccajnmkbjaaGreatDoorY1
namespace Go.Proofs.YthlpccajnmkbjaaGreatDoor

def CV.kv (c : CV) : KV := ⟨sb c.row, sb c.fam, sb c.qual, c.time⟩
/-- A cell that a tablet may have. -/
structure CV.good (c : CV) : Prop where
  right : c.kv.right
  time : c.time < 18446744073709551616
  val : c.value.length ≤ 256
  byt : Byt c.value
  gone : c.gone = true → c.value = []
/-- A cell's item. -/
def itV (c : CV) : List Int := if c.gone then [1] else 0 :: c.value
def itm (c : CV) : It := ⟨keyL c.kv, itV c⟩
theorem CV.kvByt {c : CV} (h : c.time < 18446744073709551616) : c.kv.byt := ⟨sb_byte _, sb_byte _, sb_byte _, h⟩
theorem CV.kv_eq {a b : CV} (h : a.kv = b.kv) : a.row = b.row ∧ a.fam = b.fam ∧ a.qual = b.qual ∧ a.time = b.time := by
  simp only [CV.kv, KV.mk.injEq] at h
  exact ⟨sb_inj h.1, sb_inj h.2.1, sb_inj h.2.2.1, h.2.2.2⟩
theorem keyL_inj {a b : KV} (ha : a.byt) (hb : b.byt) (h : keyL a = keyL b) : a = b := by
  have := keyL_cmp a b ha hb
  rw [h, cmpL_self] at this
  exact (cmpK_zero a b).1 this.symm
theorem itV_inj {a b : CV} (ha : a.gone = true → a.value = []) (hb : b.gone = true → b.value = []) (h : itV a = itV b) : a.gone = b.gone ∧ a.value = b.value := by
  unfold itV at h
  cases ea : a.gone <;> cases eb : b.gone <;> rw [ea, eb] at h <;> simp at h
  · exact ⟨rfl, h⟩
  · exact ⟨rfl, by rw [ha ea, hb eb]⟩
theorem itm_inj {a b : CV} (ha : a.good) (hb : b.good) (h : itm a = itm b) : a = b := by
  simp only [itm, It.mk.injEq] at h
  obtain ⟨h1, h2, h3, h4⟩ := CV.kv_eq (keyL_inj (CV.kvByt ha.time) (CV.kvByt hb.time) h.1)
  obtain ⟨h5, h6⟩ := itV_inj ha.gone hb.gone h.2
  cases a; cases b
  simp only at h1 h2 h3 h4 h5 h6
  subst h1 h2 h3 h4 h5 h6
  rfl
theorem itV_byt {c : CV} (h : Byt c.value) : Byt (itV c) := by
  unfold itV
  split
  · intro x hx; simp at hx; omega
  · intro x hx
    rcases List.mem_cons.1 hx with rfl | hx
    · omega
    · exact h x hx
theorem itV_len (c : CV) : (itV c).length ≤ c.value.length + 1 := by
  unfold itV
  split <;> simp
theorem nm_le (s : List Int) : (nm s).length ≤ 2 * s.length + 2 := (nm_len s).2
theorem keyL_le {k : KV} (h : k.right) : (keyL k).length ≤ 256 := by
  unfold keyL
  obtain ⟨h1, h2, h3, h4, h5⟩ := h
  have a1 := nm_le k.row
  have a2 := nm_le k.fam
  have a3 := nm_le k.qual
  have a4 := beL_len 8 k.time
  simp only [List.length_append]
  omega
/-- Cells by keys. -/
def CSrt (cs : List CV) : Prop := Srt (cs.map itm)
/-- All cells may be. -/
def CGood (cs : List CV) : Prop := ∀ c ∈ cs, c.good
/-- What a tablet has. -/
structure TbOk (f t : ByteArray) (cs : List CV) : Prop where
  srt : CSrt cs
  good : CGood cs
  from_ : f.size ≤ 32
  to_ : t.size ≤ 32
  rows : ∀ c ∈ cs, ¬ cmpL (sb c.row) (sb f) < 0 ∧ (t.size = 0 ∨ cmpL (sb c.row) (sb t) < 0)
  many : cs.length ≤ 32
/-- The cells below a key, above it; with a cell; without a key. -/
def cLo (k : KV) (cs : List CV) : List CV := cs.filter fun x => decide (cmpL (keyL x.kv) (keyL k) < 0)
def cHi (k : KV) (cs : List CV) : List CV := cs.filter fun x => decide (cmpL (keyL k) (keyL x.kv) < 0)
def cIns (cs : List CV) (c : CV) : List CV := cLo c.kv cs ++ c :: cHi c.kv cs
def cDel (cs : List CV) (k : KV) : List CV := cLo k cs ++ cHi k cs
theorem lo_itm (k : KV) (cs : List CV) : lo (keyL k) (cs.map itm) = (cLo k cs).map itm := by
  unfold lo cLo
  rw [List.filter_map]
  rfl
theorem hi_itm (k : KV) (cs : List CV) : hi (keyL k) (cs.map itm) = (cHi k cs).map itm := by
  unfold hi cHi
  rw [List.filter_map]
  rfl
theorem ins_itm (cs : List CV) (c : CV) : ins (cs.map itm) (itm c) = (cIns cs c).map itm := by
  unfold ins cIns
  rw [show (itm c).k = keyL c.kv from rfl, lo_itm, hi_itm, List.map_append, List.map_cons]
theorem del_itm (cs : List CV) (k : KV) : del (cs.map itm) (keyL k) = (cDel cs k).map itm := by
  unfold del cDel
  rw [lo_itm, hi_itm, List.map_append]
theorem mem_cIns {cs : List CV} {c x : CV} (h : x ∈ cIns cs c) : x = c ∨ x ∈ cs := by
  unfold cIns cLo cHi at h
  rcases List.mem_append.1 h with h | h
  · exact .inr (List.mem_filter.1 h).1
  · rcases List.mem_cons.1 h with h | h
    · exact .inl h
    · exact .inr (List.mem_filter.1 h).1
theorem mem_cDel {cs : List CV} {k : KV} {x : CV} (h : x ∈ cDel cs k) : x ∈ cs := by
  unfold cDel cLo cHi at h
  rcases List.mem_append.1 h with h | h
  · exact (List.mem_filter.1 h).1
  · exact (List.mem_filter.1 h).1
theorem CSrt.ins {cs : List CV} (h : CSrt cs) (c : CV) : CSrt (cIns cs c) := by
  have := Srt.ofIns h (itm c)
  rw [ins_itm] at this
  exact this
theorem CSrt.del {cs : List CV} (h : CSrt cs) (k : KV) : CSrt (cDel cs k) := by
  have := Srt.ofDel h (keyL k)
  rw [del_itm] at this
  exact this
theorem CGood.ins {cs : List CV} (h : CGood cs) {c : CV} (hc : c.good) : CGood (cIns cs c) := fun x hx => by
  rcases mem_cIns hx with rfl | hx
  · exact hc
  · exact h x hx
theorem CGood.del {cs : List CV} (h : CGood cs) (k : KV) : CGood (cDel cs k) := fun x hx => h x (mem_cDel hx)
theorem cIns_len (cs : List CV) (c : CV) : (cIns cs c).length ≤ cs.length + 1 := by
  have h1 : ((cLo c.kv cs).map itm).length + ((cHi c.kv cs).map itm).length ≤ cs.length := by
    rw [List.length_map, List.length_map]
    unfold cLo cHi

    induction cs with
    | nil => simp
    | cons x cs ih =>
      simp only [List.filter_cons, List.length_cons]
      rcases cmpL_total (keyL x.kv) (keyL c.kv) with h | h | h
      · rw [decide_eq_true h, decide_eq_false (cmpL_asym h)]
        simp only [if_true, List.length_cons, Bool.false_eq_true, if_false]
        omega
      · rw [h, decide_eq_false (cmpL_irr _)]
        simp only [Bool.false_eq_true, if_false]
        omega
      · rw [decide_eq_true h, decide_eq_false (cmpL_asym h)]
        simp only [if_true, List.length_cons, Bool.false_eq_true, if_false]
        omega
  unfold cIns
  rw [List.length_map, List.length_map] at h1
  rw [List.length_append, List.length_cons]
  omega
theorem cDel_len (cs : List CV) (k : KV) : (cDel cs k).length ≤ cs.length := by
  unfold cDel cLo cHi
  rw [List.length_append]
  induction cs with
  | nil => simp
  | cons x cs ih =>
    simp only [List.filter_cons, List.length_cons]
    rcases cmpL_total (keyL x.kv) (keyL k) with h | h | h
    · rw [decide_eq_true h, decide_eq_false (cmpL_asym h)]
      simp only [if_true, List.length_cons, Bool.false_eq_true, if_false]
      omega
    · rw [h, decide_eq_false (cmpL_irr _)]
      simp only [Bool.false_eq_true, if_false]
      omega
    · rw [decide_eq_true h, decide_eq_false (cmpL_asym h)]
      simp only [if_true, List.length_cons, Bool.false_eq_true, if_false]
      omega
/-- Is a row one of some rows? (An empty end is none.) -/
def inRows (f t : ByteArray) (r : ByteArray) : Bool := decide (¬ cmpL (sb r) (sb f) < 0 ∧ (t.size = 0 ∨ cmpL (sb r) (sb t) < 0))
/-- Of one column? -/
def CV.col (c : CV) (k : KA) : Bool := decide (c.row = k.row ∧ c.fam = k.fam ∧ c.qual = k.qual)
def colC (k : KA) (cs : List CV) : List CV := cs.filter fun c => c.col k
def hasC (k : KA) (cs : List CV) : Bool := cs.any fun c => decide (c.row = k.row ∧ c.fam = k.fam ∧ c.qual = k.qual ∧ c.time = k.time)
end Go.Proofs.YthlpccajnmkbjaaGreatDoor

namespace Go.Proofs.YthlpccajnmkbjaaGreatDoor

/-- The upper end: of an empty text 33 bytes of 255. -/
def hiL (t : List Int) : List Int := if t = [] then List.replicate 33 255 else nm t
end Go.Proofs.YthlpccajnmkbjaaGreatDoor
