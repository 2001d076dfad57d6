/-
  The types of operations, requests and results, as the program has them.
-/
import Derived.Test.YtbfcilfdeemnpaaMB
namespace Go.Proofs.Ytbfcilfdeemnpaa
open Go.RowKit

def opT : OpTypes Try.prog where
  op := 28
  key := 24
  int := 3
  str := 9
  u64 := 22
  bys := 25
  u8 := 5
  bool := 4
  subs := 26
  f0 := { name := "Kind", type := 3, offset := 0, embedded := false, tag := "", pkgPath := "", byteOffset := 0 }
  f1 := { name := "K", type := 24, offset := 1, embedded := false, tag := "", pkgPath := "", byteOffset := 8 }
  f2 := { name := "To", type := 9, offset := 5, embedded := false, tag := "", pkgPath := "", byteOffset := 64 }
  f3 := { name := "Value", type := 25, offset := 6, embedded := false, tag := "", pkgPath := "", byteOffset := 80 }
  f4 := { name := "Want", type := 25, offset := 7, embedded := false, tag := "", pkgPath := "", byteOffset := 104 }
  f5 := { name := "Has", type := 4, offset := 8, embedded := false, tag := "", pkgPath := "", byteOffset := 128 }
  f6 := { name := "Sub", type := 26, offset := 9, embedded := false, tag := "", pkgPath := "", byteOffset := 136 }
  g0 := { name := "Row", type := 9, offset := 0, embedded := false, tag := "", pkgPath := "", byteOffset := 0 }
  g1 := { name := "Family", type := 9, offset := 1, embedded := false, tag := "", pkgPath := "", byteOffset := 16 }
  g2 := { name := "Qual", type := 9, offset := 2, embedded := false, tag := "", pkgPath := "", byteOffset := 32 }
  g3 := { name := "Time", type := 22, offset := 3, embedded := false, tag := "", pkgPath := "", byteOffset := 48 }
  hop := Try.underlying28
  hkey := Try.underlying24
  hint := Try.underlying3
  hstr := Try.underlying9
  hu64 := Try.underlying22
  hbys := Try.underlying25
  hu8 := Try.underlying5
  hbool := Try.underlying4
  hsubs := Try.underlying26
  cop := by kernel_rfl
  ckey := by kernel_rfl
  cint := by kernel_rfl
  cstr := by kernel_rfl
  cu64 := by kernel_rfl
  cbys := by kernel_rfl
  cu8 := by kernel_rfl
  bu8 := by kernel_rfl
  cbool := by kernel_rfl
  csubs := by kernel_rfl
  o0 := ⟨rfl, rfl⟩
  o1 := ⟨rfl, rfl⟩
  o2 := ⟨rfl, rfl⟩
  o3 := ⟨rfl, rfl⟩
  o4 := ⟨rfl, rfl⟩
  o5 := ⟨rfl, rfl⟩
  o6 := ⟨rfl, rfl⟩
  p0 := ⟨rfl, rfl⟩
  p1 := ⟨rfl, rfl⟩
  p2 := ⟨rfl, rfl⟩
  p3 := ⟨rfl, rfl⟩
def cellT : CellTypes Try.prog opT where
  cel := 53
  cels := 43
  f0 := { name := "K", type := 24, offset := 0, embedded := false, tag := "", pkgPath := "", byteOffset := 0 }
  f1 := { name := "Value", type := 25, offset := 4, embedded := false, tag := "", pkgPath := "", byteOffset := 56 }
  f2 := { name := "Gone", type := 4, offset := 5, embedded := false, tag := "", pkgPath := "", byteOffset := 80 }
  hcel := Try.underlying53
  hcels := Try.underlying43
  ccel := by kernel_rfl
  o0 := ⟨rfl, rfl⟩
  o1 := ⟨rfl, rfl⟩
  o2 := ⟨rfl, rfl⟩
def moreT : MoreTypes Try.prog opT cellT where
  req := 30
  res := 45
  knd := 33
  f0 := { name := "Client", type := 22, offset := 0, embedded := false, tag := "", pkgPath := "", byteOffset := 0 }
  f1 := { name := "Stamp", type := 22, offset := 1, embedded := false, tag := "", pkgPath := "", byteOffset := 8 }
  f2 := { name := "O", type := 28, offset := 2, embedded := false, tag := "", pkgPath := "", byteOffset := 16 }
  g0 := { name := "E", type := 33, offset := 0, embedded := false, tag := "", pkgPath := "", byteOffset := 0 }
  g1 := { name := "Cells", type := 43, offset := 1, embedded := false, tag := "", pkgPath := "", byteOffset := 8 }
  g2 := { name := "More", type := 4, offset := 2, embedded := false, tag := "", pkgPath := "", byteOffset := 32 }
  hreq := Try.underlying30
  hres := Try.underlying45
  hknd := Try.underlying33
  creq := by kernel_rfl
  cres := by kernel_rfl
  cknd := by kernel_rfl
  ccels := by kernel_rfl
  o0 := ⟨rfl, rfl⟩
  o1 := ⟨rfl, rfl⟩
  o2 := ⟨rfl, rfl⟩
  p0 := ⟨rfl, rfl⟩
  p1 := ⟨rfl, rfl⟩
  p2 := ⟨rfl, rfl⟩
end Go.Proofs.Ytbfcilfdeemnpaa
