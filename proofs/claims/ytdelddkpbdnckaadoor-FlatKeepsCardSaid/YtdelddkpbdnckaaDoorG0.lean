/- exec's step at any instruction that may be. -/
import Derived.Test.YtdelddkpbdnckaaDoorE1
import Derived.Test.YtdelddkpbdnckaaDoorE2
import Derived.Test.YtdelddkpbdnckaaDoorE3
import Derived.Test.YtdelddkpbdnckaaDoorE4
import Derived.Test.YtdelddkpbdnckaaDoorE5
import Derived.Test.YtdelddkpbdnckaaDoorE6
namespace Go.Proofs.YtdelddkpbdnckaaDoor
open Go.RowKit

theorem step_any (x : I4) (places : Nat) (pc : Int) (r : R4) (w : World) (hm : May x places) (hp : 0 ≤ pc ∧ pc < 1000000) :
    Calls Tryd.prog 63 #[insV x, .int .i64 pc, regV r] w (StepG (stepP x pc r) w) := by
  obtain ⟨op, a, b, n⟩ := x
  obtain ⟨⟨o1, o2⟩, ⟨a1, a2⟩, ⟨b1, b2⟩, hn, -⟩ := hm
  dsimp only at o1 o2 a1 a2 b1 b2 hn
  have ho : op = 1 ∨ op = 2 ∨ op = 3 ∨ op = 4 ∨ op = 5 ∨ op = 6 ∨ op = 7 ∨ op = 8 ∨ op = 9 ∨ op = 10 ∨ op = 11 ∨ op = 12 ∨ op = 13 ∨ op = 14 := by omega
  have ha : a = 0 ∨ a = 1 ∨ a = 2 ∨ a = 3 := by omega
  have hb : b = 0 ∨ b = 1 ∨ b = 2 ∨ b = 3 := by omega
  clear o1 o2 a1 a2 b1 b2
  rcases ho with rfl | rfl | rfl | rfl | rfl | rfl | rfl | rfl | rfl | rfl | rfl | rfl | rfl | rfl
  · rcases ha with rfl | rfl | rfl | rfl
    · exact step_1_0 b n pc r w hp hn
    · exact step_1_1 b n pc r w hp hn
    · exact step_1_2 b n pc r w hp hn
    · exact step_1_3 b n pc r w hp hn
  · rcases ha with rfl | rfl | rfl | rfl
    · rcases hb with rfl | rfl | rfl | rfl
      · exact step_2_0_0 n pc r w hp hn
      · exact step_2_0_1 n pc r w hp hn
      · exact step_2_0_2 n pc r w hp hn
      · exact step_2_0_3 n pc r w hp hn
    · rcases hb with rfl | rfl | rfl | rfl
      · exact step_2_1_0 n pc r w hp hn
      · exact step_2_1_1 n pc r w hp hn
      · exact step_2_1_2 n pc r w hp hn
      · exact step_2_1_3 n pc r w hp hn
    · rcases hb with rfl | rfl | rfl | rfl
      · exact step_2_2_0 n pc r w hp hn
      · exact step_2_2_1 n pc r w hp hn
      · exact step_2_2_2 n pc r w hp hn
      · exact step_2_2_3 n pc r w hp hn
    · rcases hb with rfl | rfl | rfl | rfl
      · exact step_2_3_0 n pc r w hp hn
      · exact step_2_3_1 n pc r w hp hn
      · exact step_2_3_2 n pc r w hp hn
      · exact step_2_3_3 n pc r w hp hn
  · rcases ha with rfl | rfl | rfl | rfl
    · rcases hb with rfl | rfl | rfl | rfl
      · exact step_3_0_0 n pc r w hp hn
      · exact step_3_0_1 n pc r w hp hn
      · exact step_3_0_2 n pc r w hp hn
      · exact step_3_0_3 n pc r w hp hn
    · rcases hb with rfl | rfl | rfl | rfl
      · exact step_3_1_0 n pc r w hp hn
      · exact step_3_1_1 n pc r w hp hn
      · exact step_3_1_2 n pc r w hp hn
      · exact step_3_1_3 n pc r w hp hn
    · rcases hb with rfl | rfl | rfl | rfl
      · exact step_3_2_0 n pc r w hp hn
      · exact step_3_2_1 n pc r w hp hn
      · exact step_3_2_2 n pc r w hp hn
      · exact step_3_2_3 n pc r w hp hn
    · rcases hb with rfl | rfl | rfl | rfl
      · exact step_3_3_0 n pc r w hp hn
      · exact step_3_3_1 n pc r w hp hn
      · exact step_3_3_2 n pc r w hp hn
      · exact step_3_3_3 n pc r w hp hn
  · rcases ha with rfl | rfl | rfl | rfl
    · exact step_4_0 b n pc r w hp hn
    · exact step_4_1 b n pc r w hp hn
    · exact step_4_2 b n pc r w hp hn
    · exact step_4_3 b n pc r w hp hn
  · rcases ha with rfl | rfl | rfl | rfl
    · by_cases h0 : r.get 0 = 0
      · exact step_5_0_z b n pc r w hp hn h0
      · exact step_5_0_n b n pc r w hp hn h0
    · by_cases h0 : r.get 1 = 0
      · exact step_5_1_z b n pc r w hp hn h0
      · exact step_5_1_n b n pc r w hp hn h0
    · by_cases h0 : r.get 2 = 0
      · exact step_5_2_z b n pc r w hp hn h0
      · exact step_5_2_n b n pc r w hp hn h0
    · by_cases h0 : r.get 3 = 0
      · exact step_5_3_z b n pc r w hp hn h0
      · exact step_5_3_n b n pc r w hp hn h0
  · rcases ha with rfl | rfl | rfl | rfl
    · exact step_6_0 b n pc r w hp hn
    · exact step_6_1 b n pc r w hp hn
    · exact step_6_2 b n pc r w hp hn
    · exact step_6_3 b n pc r w hp hn
  · rcases ha with rfl | rfl | rfl | rfl
    · exact step_7_0 b n pc r w hp hn
    · exact step_7_1 b n pc r w hp hn
    · exact step_7_2 b n pc r w hp hn
    · exact step_7_3 b n pc r w hp hn
  · rcases ha with rfl | rfl | rfl | rfl
    · exact step_8_0 b n pc r w hp hn
    · exact step_8_1 b n pc r w hp hn
    · exact step_8_2 b n pc r w hp hn
    · exact step_8_3 b n pc r w hp hn
  · rcases ha with rfl | rfl | rfl | rfl
    · exact step_9_0 b n pc r w hp hn
    · exact step_9_1 b n pc r w hp hn
    · exact step_9_2 b n pc r w hp hn
    · exact step_9_3 b n pc r w hp hn
  · rcases ha with rfl | rfl | rfl | rfl
    · exact step_10_0 b n pc r w hp hn
    · exact step_10_1 b n pc r w hp hn
    · exact step_10_2 b n pc r w hp hn
    · exact step_10_3 b n pc r w hp hn
  · rcases ha with rfl | rfl | rfl | rfl
    · exact step_11_0 b n pc r w hp hn
    · exact step_11_1 b n pc r w hp hn
    · exact step_11_2 b n pc r w hp hn
    · exact step_11_3 b n pc r w hp hn
  · rcases ha with rfl | rfl | rfl | rfl
    · exact step_12_0 b n pc r w hp hn
    · exact step_12_1 b n pc r w hp hn
    · exact step_12_2 b n pc r w hp hn
    · exact step_12_3 b n pc r w hp hn
  · rcases ha with rfl | rfl | rfl | rfl
    · exact step_13_0 b n pc r w hp hn
    · exact step_13_1 b n pc r w hp hn
    · exact step_13_2 b n pc r w hp hn
    · exact step_13_3 b n pc r w hp hn
  · rcases ha with rfl | rfl | rfl | rfl
    · exact step_14_0 b n pc r w hp hn
    · exact step_14_1 b n pc r w hp hn
    · exact step_14_2 b n pc r w hp hn
    · exact step_14_3 b n pc r w hp hn
end Go.Proofs.YtdelddkpbdnckaaDoor
