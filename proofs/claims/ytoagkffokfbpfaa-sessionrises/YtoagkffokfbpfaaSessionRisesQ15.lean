/-
  Texts in one: SeTypes.
-/
import Derived.Test.YtoagkffokfbpfaaSessionRisesQ9
namespace Go.Proofs.Ytoagkffokfbpfaa
open Go.RowKit
def resT : ResTypes Try.prog where
  key := 79
  str := 9
  u64 := 39
  bys := 22
  u8 := 5
  bool := 4
  cel := 81
  cels := 40
  knd := 25
  res := 42
  g0 := { name := "Row", type := 9, offset := 0, embedded := false, tag := "", pkgPath := "", byteOffset := 0 }
  g1 := { name := "Family", type := 9, offset := 1, embedded := false, tag := "", pkgPath := "", byteOffset := 16 }
  g2 := { name := "Qual", type := 9, offset := 2, embedded := false, tag := "", pkgPath := "", byteOffset := 32 }
  g3 := { name := "Time", type := 39, offset := 3, embedded := false, tag := "", pkgPath := "", byteOffset := 48 }
  f0 := { name := "K", type := 79, offset := 0, embedded := false, tag := "", pkgPath := "", byteOffset := 0 }
  f1 := { name := "Value", type := 22, offset := 4, embedded := false, tag := "", pkgPath := "", byteOffset := 56 }
  f2 := { name := "Gone", type := 4, offset := 5, embedded := false, tag := "", pkgPath := "", byteOffset := 80 }
  r0 := { name := "E", type := 25, offset := 0, embedded := false, tag := "", pkgPath := "", byteOffset := 0 }
  r1 := { name := "Cells", type := 40, offset := 1, embedded := false, tag := "", pkgPath := "", byteOffset := 8 }
  r2 := { name := "More", type := 4, offset := 2, embedded := false, tag := "", pkgPath := "", byteOffset := 32 }
  hkey := Try.underlying79
  hstr := Try.underlying9
  hu64 := Try.underlying39
  hbys := Try.underlying22
  hu8 := Try.underlying5
  hbool := Try.underlying4
  hcel := Try.underlying81
  hcels := Try.underlying40
  hknd := Try.underlying25
  hres := Try.underlying42
  ckey := by kernel_rfl
  cstr := by kernel_rfl
  cu64 := by kernel_rfl
  cbys := by kernel_rfl
  cu8 := by kernel_rfl
  bu8 := by kernel_rfl
  cbool := by kernel_rfl
  ccel := by kernel_rfl
  ccels := by kernel_rfl
  cknd := by kernel_rfl
  cres := by kernel_rfl
  p0 := ⟨rfl, rfl⟩
  p1 := ⟨rfl, rfl⟩
  p2 := ⟨rfl, rfl⟩
  p3 := ⟨rfl, rfl⟩
  o0 := ⟨rfl, rfl⟩
  o1 := ⟨rfl, rfl⟩
  o2 := ⟨rfl, rfl⟩
  q0 := ⟨rfl, rfl⟩
  q1 := ⟨rfl, rfl⟩
  q2 := ⟨rfl, rfl⟩
def lastT : LastTypes Try.prog resT where
  last := 44
  lasts := 28
  f0 := { name := "Client", type := 39, offset := 0, embedded := false, tag := "", pkgPath := "", byteOffset := 0 }
  f1 := { name := "Stamp", type := 39, offset := 1, embedded := false, tag := "", pkgPath := "", byteOffset := 8 }
  f2 := { name := "R", type := 42, offset := 2, embedded := false, tag := "", pkgPath := "", byteOffset := 16 }
  hlast := Try.underlying44
  hlasts := Try.underlying28
  clast := by kernel_rfl
  o0 := ⟨rfl, rfl⟩
  o1 := ⟨rfl, rfl⟩
  o2 := ⟨rfl, rfl⟩
end Go.Proofs.Ytoagkffokfbpfaa
