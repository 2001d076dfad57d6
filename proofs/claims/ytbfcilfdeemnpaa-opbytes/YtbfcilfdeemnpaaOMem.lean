/-
  Operations as they lie in memory. No program is named here.
-/
import Derived.Test.YtbfcilfdeemnpaaORight
namespace Go.Proofs.Ytbfcilfdeemnpaa
open Go.RowKit

/-- A slice of bytes: where it lies, its length and capacity, its bytes. -/
structure Bs where
  ao : Option Addr
  n : Nat
  cap : Nat
  xs : List Int
def Bs.val (b : Bs) : Value := .slice b.ao b.n b.cap
def Bs.ok (b : Bs) (w : World) : Prop := Sl w b.ao b.n b.cap b.xs
/-- An operation as it comes: its ten cells. -/
structure OA where
  kind : Int
  row : ByteArray
  fam : ByteArray
  qual : ByteArray
  time : Nat
  to : ByteArray
  va : Bs
  wa : Bs
  has : Bool
  so : Option Addr
  sn : Nat
  sc : Nat
def OA.cells (o : OA) : List Value := [.int .i64 o.kind, .string o.row, .string o.fam, .string o.qual, .int .u64 o.time, .string o.to, .slice o.va.ao o.va.n o.va.cap, .slice o.wa.ao o.wa.n o.wa.cap, .bool o.has, .slice o.so o.sn o.sc]
def OA.val (o : OA) : Value := .agg #[.int .i64 o.kind, .string o.row, .string o.fam, .string o.qual, .int .u64 o.time, .string o.to, .slice o.va.ao o.va.n o.va.cap, .slice o.wa.ao o.wa.n o.wa.cap, .bool o.has, .slice o.so o.sn o.sc]
def OA.s (o : OA) : SO := ⟨o.kind, o.row, o.fam, o.qual, o.time, o.to, o.va.xs, o.wa.xs, o.has⟩
structure OA.ok (o : OA) (w : World) : Prop where
  kind : -9223372036854775808 ≤ o.kind ∧ o.kind ≤ 9223372036854775807
  row : o.row.size ≤ maxLen
  fam : o.fam.size ≤ maxLen
  qual : o.qual.size ≤ maxLen
  time : o.time < 18446744073709551616
  to : o.to.size ≤ maxLen
  va : Sl w o.va.ao o.va.n o.va.cap o.va.xs
  wa : Sl w o.wa.ao o.wa.n o.wa.cap o.wa.xs
  le : o.sn ≤ o.sc
  mx : o.sc ≤ maxLen
  nil : o.so = none → o.sn = 0 ∧ o.sc = 0
theorem OA.ok.below {o : OA} {w w' : World} (h : o.ok w) (hb : Below w.heap.size w w') : o.ok w' :=
  ⟨h.kind, h.row, h.fam, h.qual, h.time, h.to, h.va.below hb, h.wa.below hb, h.le, h.mx, h.nil⟩
theorem OA.ok.wf {o : OA} {w : World} (h : o.ok w) : o.s.wf := ⟨h.time, h.va.byte, h.wa.byte⟩
/-- An operation with its parts, d deep. -/
def OD : Nat → Type
  | 0 => OA
  | d + 1 => OA × List (OD d)
def topD : (d : Nat) → OD d → OA
  | 0, x => x
  | _ + 1, x => x.1
/-- It lies so in w. -/
def OW (w : World) : (d : Nat) → OD d → Prop
  | 0, x => OA.ok x w
  | d + 1, x => x.1.ok w ∧ x.2.length = x.1.sn ∧ (∀ a, x.1.so = some a → ∀ i (h : i < x.2.length), ∀ j v, (topD d x.2[i]).cells[j]? = some v → w.cell? (a.add (i * 10 + j)) = some v) ∧ ∀ y ∈ x.2, OW w d y
theorem OW.top {w : World} : ∀ {d : Nat} {x : OD d}, OW w d x → (topD d x).ok w
  | 0, _, h => h
  | _ + 1, _, h => h.1
theorem OW.below {w w' : World} (hb : Below w.heap.size w w') : ∀ {d : Nat} {x : OD d}, OW w d x → OW w' d x
  | 0, _, h => OA.ok.below h hb
  | _ + 1, _, h => ⟨h.1.below hb, h.2.1, fun a ha i hi j v hv => (hb.cell (World.block_lt_of_cell? w _ (h.2.2.1 a ha i hi j v hv))).trans (h.2.2.1 a ha i hi j v hv), fun y hy => OW.below hb (h.2.2.2 y hy)⟩
/-- Its texts are no longer than what a process can have. -/
structure OA.small (o : OA) : Prop where
  row : o.row.size ≤ 140737488351232
  fam : o.fam.size ≤ 140737488351232
  qual : o.qual.size ≤ 140737488351232
  to : o.to.size ≤ 140737488351232
def OSm : (d : Nat) → OD d → Prop
  | 0, x => OA.small x
  | d + 1, x => x.1.small ∧ ∀ y ∈ x.2, OSm d y
theorem OSm.top : ∀ {d : Nat} {x : OD d}, OSm d x → (topD d x).small
  | 0, _, h => h
  | _ + 1, _, h => h.1
/-- Small, and not deep. -/
def fitsL (o : OA) : Bool := decide (o.row.size + o.fam.size + o.qual.size + o.to.size ≤ 500 ∧ o.va.n ≤ 600 ∧ o.wa.n ≤ 600 ∧ o.sn ≤ 12)
def lightD : (d : Nat) → OD d → Bool
  | 0, _ => false
  | d + 1, x => fitsL x.1 && x.2.all (lightD d)
/-- Alike in all. -/
def sameL {α : Type} (f : α → α → Bool) : List α → List α → Bool
  | [], [] => true
  | a :: l, b :: m => f a b && sameL f l m
  | _, _ => false
def sameD : (d : Nat) → OD d → OD d → Bool
  | 0, x, y => sameS (OA.s x) (OA.s y)
  | d + 1, x, y => sameS x.1.s y.1.s && sameL (sameD d) x.2 y.2
theorem sameL_self {α : Type} (f : α → α → Bool) : ∀ l : List α, (∀ a ∈ l, f a a = true) → sameL f l l = true
  | [], _ => rfl
  | a :: l, h => by
    rw [sameL, h a (List.mem_cons_self ..), sameL_self f l (fun b hb => h b (List.mem_cons_of_mem _ hb))]
    rfl
theorem sameS_self (a : SO) : sameS a a = true := (sameS_iff a a).2 rfl
theorem sameD_self : ∀ (d : Nat) (x : OD d), sameD d x x = true
  | 0, x => sameS_self _
  | d + 1, x => by
    rw [sameD, sameS_self, sameL_self _ _ (fun y _ => sameD_self d y)]
    rfl
/-- A part, as it is looked at: itself, and how many parts it has. -/
def snD (d : Nat) (x : OD d) : SN := ((topD d x).s, (topD d x).sn)
def rightD : (d : Nat) → OD d → Bool
  | 0, x => leaf (OA.s x) (OA.sn x)
  | d + 1, x => rightO x.1.s (x.2.map (snD d))
end Go.Proofs.Ytbfcilfdeemnpaa
