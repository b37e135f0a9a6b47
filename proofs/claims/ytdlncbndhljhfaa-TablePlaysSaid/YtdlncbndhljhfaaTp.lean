/- A task among the arguments (layer 12). -/
import Derived.Test.YtdlncbndhljhfaaTa
import Derived.Test.YtdlncbndhljhfaaFr
namespace Go.Proofs.Ytdlncbndhljhfaa
open Go.ChangeShapes Go.WideShapes Go.ChangeAt Go.RowKit

def taskTs : List TypeId := [3, 3, 21, 21, 21, 21, 3, 34, 34, 34, 34, 34, 34, 34, 34, 34, 34, 34, 34, 34, 34, 34, 34, 3, 3, 3, 3, 3, 3]
theorem taskTs_is : Try.prog.cellTypes Try.prog.depth 38 = some taskTs := by kernel_rfl
theorem taskTs_kind (j : Nat) (hj : j < 29) (u : TypeId) (hu : taskTs[j]? = some u) : Try.prog.underlying u = some (.int (kindT j)) := by
  have : j = 0 ∨ j = 1 ∨ j = 2 ∨ j = 3 ∨ j = 4 ∨ j = 5 ∨ j = 6 ∨ j = 7 ∨ j = 8 ∨ j = 9 ∨ j = 10 ∨ j = 11 ∨ j = 12 ∨ j = 13 ∨ j = 14 ∨ j = 15 ∨ j = 16 ∨ j = 17 ∨ j = 18 ∨ j = 19 ∨ j = 20 ∨ j = 21 ∨ j = 22 ∨ j = 23 ∨ j = 24 ∨ j = 25 ∨ j = 26 ∨ j = 27 ∨ j = 28 := by omega
  rcases this with rfl | rfl | rfl | rfl | rfl | rfl | rfl | rfl | rfl | rfl | rfl | rfl | rfl | rfl | rfl | rfl | rfl | rfl | rfl | rfl | rfl | rfl | rfl | rfl | rfl | rfl | rfl | rfl | rfl
  · cases hu; exact Try.underlying3
  · cases hu; exact Try.underlying3
  · cases hu; exact Try.underlying21
  · cases hu; exact Try.underlying21
  · cases hu; exact Try.underlying21
  · cases hu; exact Try.underlying21
  · cases hu; exact Try.underlying3
  · cases hu; exact Try.underlying34
  · cases hu; exact Try.underlying34
  · cases hu; exact Try.underlying34
  · cases hu; exact Try.underlying34
  · cases hu; exact Try.underlying34
  · cases hu; exact Try.underlying34
  · cases hu; exact Try.underlying34
  · cases hu; exact Try.underlying34
  · cases hu; exact Try.underlying34
  · cases hu; exact Try.underlying34
  · cases hu; exact Try.underlying34
  · cases hu; exact Try.underlying34
  · cases hu; exact Try.underlying34
  · cases hu; exact Try.underlying34
  · cases hu; exact Try.underlying34
  · cases hu; exact Try.underlying34
  · cases hu; exact Try.underlying3
  · cases hu; exact Try.underlying3
  · cases hu; exact Try.underlying3
  · cases hu; exact Try.underlying3
  · cases hu; exact Try.underlying3
  · cases hu; exact Try.underlying3
set_option maxRecDepth 100000
theorem okWide_int {w : World} {r : Reach} {b0 : Nat} {u : TypeId} {k : IntKind} {v : Value} (hu : Try.prog.underlying u = some (.int k)) (h : Cell.okWide Try.prog w r b0 u v) : ∃ n, v = .int k n := by
  unfold Cell.okWide at h
  rw [hu] at h
  simp only at h
  unfold Cell.ok at h
  rw [hu] at h
  cases v <;> simp at h
  obtain ⟨rfl, _⟩ := h
  exact ⟨_, rfl⟩
theorem okRow_task {w : World} {r : Reach} {b0 : Nat} {cs : Array Value} (hs : cs.size = 29) (h : Row.okWide Try.prog w r b0 38 cs) : OkT cs.toList := by
  obtain ⟨ts, hts, _, hc⟩ := h
  rw [taskTs_is] at hts
  cases hts
  refine ⟨by simpa using hs, fun j hj => ?_⟩
  have hjs : j < cs.size := by omega
  obtain ⟨u, hu, hok⟩ := hc j cs[j] (Array.getElem?_eq_getElem hjs)
  rw [show taskTs.length = 29 from rfl, Nat.mod_eq_of_lt hj] at hu
  obtain ⟨n, hn⟩ := okWide_int (taskTs_kind j hj u hu) hok
  refine ⟨n, ?_⟩
  rw [Array.getElem?_toList, Array.getElem?_eq_getElem hjs, hn]
theorem open_task {w : World} {r : Reach} {b0 : Nat} {v : Value} (hv : Value.okWide Try.prog w r b0 38 v) : ∃ cs : List Value, v = .agg cs.toArray ∧ OkT cs := by
  unfold Value.okWide at hv
  rw [Try.underlying38] at hv
  obtain ⟨cs, rfl, hs, hr⟩ := hv
  rw [show Try.prog.cellsOf 38 = 29 by kernel_rfl] at hs
  exact ⟨cs.toList, by simp, okRow_task hs hr⟩
end Go.Proofs.Ytdlncbndhljhfaa
