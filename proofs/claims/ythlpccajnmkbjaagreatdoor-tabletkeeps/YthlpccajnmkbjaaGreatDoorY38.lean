/-
  The types of operations, as the program has them.
-/
import Derived.Test.YthlpccajnmkbjaaGreatDoorY2
namespace Go.Proofs.YthlpccajnmkbjaaGreatDoor
open Go.RowKit

def opT : OpTypes Tryz.prog where
  op := 42
  key := 39
  int := 3
  str := 9
  u64 := 37
  bys := 40
  u8 := 5
  bool := 4
  subs := 22
  f0 := { name := "Kind", type := 3, offset := 0, embedded := false, tag := "", pkgPath := "", byteOffset := 0 }
  f1 := { name := "K", type := 39, offset := 1, embedded := false, tag := "", pkgPath := "", byteOffset := 8 }
  f2 := { name := "To", type := 9, offset := 5, embedded := false, tag := "", pkgPath := "", byteOffset := 64 }
  f3 := { name := "Value", type := 40, offset := 6, embedded := false, tag := "", pkgPath := "", byteOffset := 80 }
  f4 := { name := "Want", type := 40, offset := 7, embedded := false, tag := "", pkgPath := "", byteOffset := 104 }
  f5 := { name := "Has", type := 4, offset := 8, embedded := false, tag := "", pkgPath := "", byteOffset := 128 }
  f6 := { name := "Sub", type := 22, offset := 9, embedded := false, tag := "", pkgPath := "", byteOffset := 136 }
  g0 := { name := "Row", type := 9, offset := 0, embedded := false, tag := "", pkgPath := "", byteOffset := 0 }
  g1 := { name := "Family", type := 9, offset := 1, embedded := false, tag := "", pkgPath := "", byteOffset := 16 }
  g2 := { name := "Qual", type := 9, offset := 2, embedded := false, tag := "", pkgPath := "", byteOffset := 32 }
  g3 := { name := "Time", type := 37, offset := 3, embedded := false, tag := "", pkgPath := "", byteOffset := 48 }
  hop := Tryz.underlying42
  hkey := Tryz.underlying39
  hint := Tryz.underlying3
  hstr := Tryz.underlying9
  hu64 := Tryz.underlying37
  hbys := Tryz.underlying40
  hu8 := Tryz.underlying5
  hbool := Tryz.underlying4
  hsubs := Tryz.underlying22
  cop := by kernel_rfl
  ckey := by kernel_rfl
  cint := by kernel_rfl
  cstr := by kernel_rfl
  cu64 := by kernel_rfl
  cbys := by kernel_rfl
  cu8 := by kernel_rfl
  bu8 := by kernel_rfl
  cbool := by kernel_rfl
  csubs := by kernel_rfl
  o0 := ⟨rfl, rfl⟩
  o1 := ⟨rfl, rfl⟩
  o2 := ⟨rfl, rfl⟩
  o3 := ⟨rfl, rfl⟩
  o4 := ⟨rfl, rfl⟩
  o5 := ⟨rfl, rfl⟩
  o6 := ⟨rfl, rfl⟩
  p0 := ⟨rfl, rfl⟩
  p1 := ⟨rfl, rfl⟩
  p2 := ⟨rfl, rfl⟩
  p3 := ⟨rfl, rfl⟩
end Go.Proofs.YthlpccajnmkbjaaGreatDoor
