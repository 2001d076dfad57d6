/-
  Keys as they come.
-/
import Derived.Test.YtghemebgkhopnaaCStr
namespace Go.Proofs.Ytghemebgkhopnaa
open Go.RowKit

/-- A key as it comes: its texts, its time. -/
structure KA where
  row : ByteArray
  fam : ByteArray
  qual : ByteArray
  time : Nat
def KA.val (k : KA) : Value := .agg #[.string k.row, .string k.fam, .string k.qual, .int .u64 k.time]
def KA.kv (k : KA) : KV := ⟨sb k.row, sb k.fam, sb k.qual, k.time⟩
/-- What a key that comes is. -/
structure KA.ok (k : KA) : Prop where
  row : k.row.size ≤ maxLen
  fam : k.fam.size ≤ maxLen
  qual : k.qual.size ≤ maxLen
  time : k.time < 18446744073709551616
theorem KA.kv_byt {k : KA} (h : k.ok) : k.kv.byt := ⟨sb_byte _, sb_byte _, sb_byte _, h.time⟩
theorem KA.kv_inj {a b : KA} (h : a.kv = b.kv) : a = b := by
  cases a; cases b
  simp only [KA.kv, KV.mk.injEq] at h
  rw [sb_inj h.1, sb_inj h.2.1, sb_inj h.2.2.1, h.2.2.2]
end Go.Proofs.Ytghemebgkhopnaa
