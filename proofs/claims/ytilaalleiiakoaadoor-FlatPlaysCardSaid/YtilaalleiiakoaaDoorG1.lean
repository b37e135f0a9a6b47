/- The document's step, in a fine program. -/
import Derived.Test.YtilaalleiiakoaaDoorF1
import Derived.Test.YtilaalleiiakoaaDoorF2
import Derived.Test.YtilaalleiiakoaaDoorF3
import Derived.Test.YtilaalleiiakoaaDoorF4
import Derived.Test.YtilaalleiiakoaaDoorF6
import Derived.Test.YtilaalleiiakoaaDoorF7
import Derived.Test.YtilaalleiiakoaaDoorG0
namespace Go.Proofs.YtilaalleiiakoaaDoor
open Go.RowKit

theorem refStep_in (x : I4) (prio : Int) (A : Option Addr) (l : List I4) (cap k : Nat) (r : R4) (w : World) (hI : InsIn w A l) (hx : l[k]? = some x) (hf : Fine prio l) (hr : r.Ok) :
    Calls Tryd.prog 21 #[.agg #[.int .i64 prio, .slice A l.length cap], .int .i64 k, regV r] w (StepG (stepP x k r) w) := by
  have hm := hf.may hx (hI k x hx).1.n
  obtain ⟨op, a, b, n⟩ := x
  obtain ⟨⟨o1, o2⟩, ⟨a1, a2⟩, ⟨b1, b2⟩, -, -⟩ := hm
  dsimp only at o1 o2 a1 a2 b1 b2
  have ho : op = 1 ∨ op = 2 ∨ op = 3 ∨ op = 4 ∨ op = 5 ∨ op = 6 ∨ op = 7 ∨ op = 8 ∨ op = 9 ∨ op = 10 ∨ op = 11 ∨ op = 12 ∨ op = 13 ∨ op = 14 := by omega
  have ha : a = 0 ∨ a = 1 ∨ a = 2 ∨ a = 3 := by omega
  have hb : b = 0 ∨ b = 1 ∨ b = 2 ∨ b = 3 := by omega
  clear o1 o2 a1 a2 b1 b2
  rcases ho with rfl | rfl | rfl | rfl | rfl | rfl | rfl | rfl | rfl | rfl | rfl | rfl | rfl | rfl
  · rcases ha with rfl | rfl | rfl | rfl
    · exact ref_1_0 b n prio A l cap k r w hI hx hf
    · exact ref_1_1 b n prio A l cap k r w hI hx hf
    · exact ref_1_2 b n prio A l cap k r w hI hx hf
    · exact ref_1_3 b n prio A l cap k r w hI hx hf
  · rcases ha with rfl | rfl | rfl | rfl
    · rcases hb with rfl | rfl | rfl | rfl
      · exact ref_2_0_0 n prio A l cap k r w hI hx hf hr
      · exact ref_2_0_1 n prio A l cap k r w hI hx hf hr
      · exact ref_2_0_2 n prio A l cap k r w hI hx hf hr
      · exact ref_2_0_3 n prio A l cap k r w hI hx hf hr
    · rcases hb with rfl | rfl | rfl | rfl
      · exact ref_2_1_0 n prio A l cap k r w hI hx hf hr
      · exact ref_2_1_1 n prio A l cap k r w hI hx hf hr
      · exact ref_2_1_2 n prio A l cap k r w hI hx hf hr
      · exact ref_2_1_3 n prio A l cap k r w hI hx hf hr
    · rcases hb with rfl | rfl | rfl | rfl
      · exact ref_2_2_0 n prio A l cap k r w hI hx hf hr
      · exact ref_2_2_1 n prio A l cap k r w hI hx hf hr
      · exact ref_2_2_2 n prio A l cap k r w hI hx hf hr
      · exact ref_2_2_3 n prio A l cap k r w hI hx hf hr
    · rcases hb with rfl | rfl | rfl | rfl
      · exact ref_2_3_0 n prio A l cap k r w hI hx hf hr
      · exact ref_2_3_1 n prio A l cap k r w hI hx hf hr
      · exact ref_2_3_2 n prio A l cap k r w hI hx hf hr
      · exact ref_2_3_3 n prio A l cap k r w hI hx hf hr
  · rcases ha with rfl | rfl | rfl | rfl
    · rcases hb with rfl | rfl | rfl | rfl
      · exact ref_3_0_0 n prio A l cap k r w hI hx hf hr
      · exact ref_3_0_1 n prio A l cap k r w hI hx hf hr
      · exact ref_3_0_2 n prio A l cap k r w hI hx hf hr
      · exact ref_3_0_3 n prio A l cap k r w hI hx hf hr
    · rcases hb with rfl | rfl | rfl | rfl
      · exact ref_3_1_0 n prio A l cap k r w hI hx hf hr
      · exact ref_3_1_1 n prio A l cap k r w hI hx hf hr
      · exact ref_3_1_2 n prio A l cap k r w hI hx hf hr
      · exact ref_3_1_3 n prio A l cap k r w hI hx hf hr
    · rcases hb with rfl | rfl | rfl | rfl
      · exact ref_3_2_0 n prio A l cap k r w hI hx hf hr
      · exact ref_3_2_1 n prio A l cap k r w hI hx hf hr
      · exact ref_3_2_2 n prio A l cap k r w hI hx hf hr
      · exact ref_3_2_3 n prio A l cap k r w hI hx hf hr
    · rcases hb with rfl | rfl | rfl | rfl
      · exact ref_3_3_0 n prio A l cap k r w hI hx hf hr
      · exact ref_3_3_1 n prio A l cap k r w hI hx hf hr
      · exact ref_3_3_2 n prio A l cap k r w hI hx hf hr
      · exact ref_3_3_3 n prio A l cap k r w hI hx hf hr
  · rcases ha with rfl | rfl | rfl | rfl
    · exact ref_4_0 b n prio A l cap k r w hI hx hf
    · exact ref_4_1 b n prio A l cap k r w hI hx hf
    · exact ref_4_2 b n prio A l cap k r w hI hx hf
    · exact ref_4_3 b n prio A l cap k r w hI hx hf
  · rcases ha with rfl | rfl | rfl | rfl
    · by_cases h0 : r.get 0 = 0
      · exact ref_5_0_z b n prio A l cap k r w hI hx hf h0
      · exact ref_5_0_n b n prio A l cap k r w hI hx hf h0
    · by_cases h0 : r.get 1 = 0
      · exact ref_5_1_z b n prio A l cap k r w hI hx hf h0
      · exact ref_5_1_n b n prio A l cap k r w hI hx hf h0
    · by_cases h0 : r.get 2 = 0
      · exact ref_5_2_z b n prio A l cap k r w hI hx hf h0
      · exact ref_5_2_n b n prio A l cap k r w hI hx hf h0
    · by_cases h0 : r.get 3 = 0
      · exact ref_5_3_z b n prio A l cap k r w hI hx hf h0
      · exact ref_5_3_n b n prio A l cap k r w hI hx hf h0
  · rcases ha with rfl | rfl | rfl | rfl
    · exact ref_6_0 b n prio A l cap k r w hI hx hf
    · exact ref_6_1 b n prio A l cap k r w hI hx hf
    · exact ref_6_2 b n prio A l cap k r w hI hx hf
    · exact ref_6_3 b n prio A l cap k r w hI hx hf
  · rcases ha with rfl | rfl | rfl | rfl
    · exact ref_7_0 b n prio A l cap k r w hI hx hf
    · exact ref_7_1 b n prio A l cap k r w hI hx hf
    · exact ref_7_2 b n prio A l cap k r w hI hx hf
    · exact ref_7_3 b n prio A l cap k r w hI hx hf
  · rcases ha with rfl | rfl | rfl | rfl
    · exact ref_8_0 b n prio A l cap k r w hI hx hf
    · exact ref_8_1 b n prio A l cap k r w hI hx hf
    · exact ref_8_2 b n prio A l cap k r w hI hx hf
    · exact ref_8_3 b n prio A l cap k r w hI hx hf
  · rcases ha with rfl | rfl | rfl | rfl
    · exact ref_9_0 b n prio A l cap k r w hI hx hf
    · exact ref_9_1 b n prio A l cap k r w hI hx hf
    · exact ref_9_2 b n prio A l cap k r w hI hx hf
    · exact ref_9_3 b n prio A l cap k r w hI hx hf
  · rcases ha with rfl | rfl | rfl | rfl
    · exact ref_10_0 b n prio A l cap k r w hI hx hf
    · exact ref_10_1 b n prio A l cap k r w hI hx hf
    · exact ref_10_2 b n prio A l cap k r w hI hx hf
    · exact ref_10_3 b n prio A l cap k r w hI hx hf
  · rcases ha with rfl | rfl | rfl | rfl
    · exact ref_11_0 b n prio A l cap k r w hI hx hf
    · exact ref_11_1 b n prio A l cap k r w hI hx hf
    · exact ref_11_2 b n prio A l cap k r w hI hx hf
    · exact ref_11_3 b n prio A l cap k r w hI hx hf
  · rcases ha with rfl | rfl | rfl | rfl
    · exact ref_12_0 b n prio A l cap k r w hI hx hf
    · exact ref_12_1 b n prio A l cap k r w hI hx hf
    · exact ref_12_2 b n prio A l cap k r w hI hx hf
    · exact ref_12_3 b n prio A l cap k r w hI hx hf
  · rcases ha with rfl | rfl | rfl | rfl
    · exact ref_13_0 b n prio A l cap k r w hI hx hf
    · exact ref_13_1 b n prio A l cap k r w hI hx hf
    · exact ref_13_2 b n prio A l cap k r w hI hx hf
    · exact ref_13_3 b n prio A l cap k r w hI hx hf
  · rcases ha with rfl | rfl | rfl | rfl
    · exact ref_14_0 b n prio A l cap k r w hI hx hf
    · exact ref_14_1 b n prio A l cap k r w hI hx hf
    · exact ref_14_2 b n prio A l cap k r w hI hx hf
    · exact ref_14_3 b n prio A l cap k r w hI hx hf


theorem refStep_any (prio : Int) (A : Option Addr) (l : List I4) (cap : Nat) (pc : Int) (r : R4) (w : World) (hI : InsIn w A l) (hr : r.Ok) :
    Calls Tryd.prog 21 #[.agg #[.int .i64 prio, .slice A l.length cap], .int .i64 pc, regV r] w (StepG (stepF prio l pc r) w) := by
  by_cases he : (progE prio l).1 = 0
  · by_cases h0 : pc < 0
    · rw [stepF_low h0]; exact refStep_low prio A l cap pc r w hI he h0
    · by_cases h1 : (l.length : Int) ≤ pc
      · rw [stepF_high h1]; exact refStep_high prio A l cap pc r w hI he (by omega) h1
      · obtain ⟨k, rfl⟩ := Int.eq_ofNat_of_zero_le (show 0 ≤ pc by omega)
        have hx : l[k]? = some (l[k]'(by omega)) := List.getElem?_eq_getElem (by omega)
        rw [stepF_in he hx]
        exact refStep_in _ prio A l cap k r w hI hx (fine_of he) hr
  · rw [stepF_bad he]; exact refStep_not prio A l cap pc r w hI he
end Go.Proofs.YtilaalleiiakoaaDoor
