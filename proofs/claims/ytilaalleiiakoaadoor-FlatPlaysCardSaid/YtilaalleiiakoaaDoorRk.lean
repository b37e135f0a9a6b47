/- The document's Name, Shape, Has, reg of layer 9. -/
import Derived.Test.YtilaalleiiakoaaDoorCk
namespace Go.Proofs.YtilaalleiiakoaaDoor
open Go.RowKit

def shapeS (op : Int) : ByteArray :=
  if op = 1 ∨ op = 5 ∨ op = 7 ∨ op = 9 ∨ op = 10 ∨ op = 12 then ⟨#[65, 78]⟩
  else if op = 2 ∨ op = 3 ∨ op = 8 then ⟨#[65, 66]⟩
  else if op = 4 then ⟨#[78]⟩
  else if op = 6 then ⟨#[]⟩
  else ⟨#[65]⟩
set_option maxHeartbeats 4000000 in
theorem shape_any (op : Int) (w : World) :
    Calls Tryd.prog 47 #[.int .i64 op] w (GotB w.heap.size (.string (shapeS op)) w) := by
  have HB := Lib.hid ((Below.refl w.heap.size w).alloc (Nat.le_refl _) (.cells #[.string ⟨#[]⟩, .string ⟨#[65, 78]⟩, .string ⟨#[65, 66]⟩, .string ⟨#[65, 66]⟩, .string ⟨#[78]⟩, .string ⟨#[65, 78]⟩, .string ⟨#[]⟩, .string ⟨#[65, 78]⟩, .string ⟨#[65, 66]⟩, .string ⟨#[65, 78]⟩, .string ⟨#[65, 78]⟩, .string ⟨#[65]⟩, .string ⟨#[65, 78]⟩, .string ⟨#[65]⟩, .string ⟨#[65]⟩] 9))
  by_cases h : op < 1 ∨ 14 < op
  · have e : shapeS op = ⟨#[65]⟩ := by
      unfold shapeS; rw [if_neg (by omega), if_neg (by omega), if_neg (by omega), if_neg (by omega)]
    rw [e]
    clear e
    rcases h with h | h
    · go_enter Tryd.func47, Tryd.ntmps47
      go_wp2
      go_ret
      exact ⟨rfl, HB.out⟩
    · have h0 : decide (op < 1) = false := by simp; omega
      go_enter Tryd.func47, Tryd.ntmps47
      go_wp2
      go_ret
      exact ⟨rfl, HB.out⟩
  · have hl : op = 1 ∨ op = 2 ∨ op = 3 ∨ op = 4 ∨ op = 5 ∨ op = 6 ∨ op = 7 ∨ op = 8 ∨ op = 9 ∨ op = 10 ∨ op = 11 ∨ op = 12 ∨ op = 13 ∨ op = 14 := by omega
    clear h
    rcases hl with rfl | rfl | rfl | rfl | rfl | rfl | rfl | rfl | rfl | rfl | rfl | rfl | rfl | rfl
    all_goals
      go_enter Tryd.func47, Tryd.ntmps47
      go_wp2
      go_ret
      exact ⟨rfl, HB.out⟩
set_option maxHeartbeats 2000000 in
theorem reg_any (r : Int) (had : Bool) (w : World) :
    Calls Tryd.prog 48 #[.bool had, .int .i64 r] w fun e w' => e = .returned (.bool (!regOk r had)) ∧ w = w' := by
  by_cases h0 : r = 0
  · subst h0
    cases had
    all_goals
      go_enter Tryd.func48, Tryd.ntmps48
      go_wp2
      go_ret
      exact ⟨rfl, rfl⟩
  · have t : (r != 0) = true := by simp [h0]
    cases had with
    | false =>
      have e : regOk r false = false := by simp [regOk, h0]
      rw [e]
      clear e h0
      go_enter Tryd.func48, Tryd.ntmps48
      go_wp2
      go_ret
      exact ⟨rfl, rfl⟩
    | true =>
      by_cases h1 : r < 0
      · have e : regOk r true = false := by simp [regOk]; omega
        rw [e]
        clear e h0
        go_enter Tryd.func48, Tryd.ntmps48
        go_wp2
        go_ret
        exact ⟨rfl, rfl⟩
      · have d1 : decide (r < 0) = false := by simp; omega
        by_cases h2 : 3 < r
        · have e : regOk r true = false := by simp [regOk]; omega
          rw [e]
          clear e h0 h1
          go_enter Tryd.func48, Tryd.ntmps48
          go_wp2
          go_ret
          exact ⟨rfl, rfl⟩
        · have e : regOk r true = true := by simp [regOk]; omega
          have d2 : decide (3 < r) = false := by simp; omega
          rw [e]
          clear e h0 h1 h2
          go_enter Tryd.func48, Tryd.ntmps48
          go_wp2
          go_ret
          exact ⟨rfl, rfl⟩


set_option maxHeartbeats 1000000 in
theorem hasA_AN (w : World) : Calls Tryd.prog 49 #[.string ⟨#[65, 78]⟩, .int .u8 65] w fun e w' => e = .returned (.bool true) ∧ w = w' := by
  go_enter Tryd.func49, Tryd.ntmps49
  go_wp2
  go_loop [5] (fun i => i = .int .i64 0) (fun i => 5 - (intOf i).toNat)
  case atStart => exact rfl
  case round =>
    obtain rfl := hrel
    go_wp2
    go_ret
    exact ⟨rfl, rfl⟩
set_option maxHeartbeats 1000000 in
theorem hasA_AB (w : World) : Calls Tryd.prog 49 #[.string ⟨#[65, 66]⟩, .int .u8 65] w fun e w' => e = .returned (.bool true) ∧ w = w' := by
  go_enter Tryd.func49, Tryd.ntmps49
  go_wp2
  go_loop [5] (fun i => i = .int .i64 0) (fun i => 5 - (intOf i).toNat)
  case atStart => exact rfl
  case round =>
    obtain rfl := hrel
    go_wp2
    go_ret
    exact ⟨rfl, rfl⟩
set_option maxHeartbeats 1000000 in
theorem hasA_N (w : World) : Calls Tryd.prog 49 #[.string ⟨#[78]⟩, .int .u8 65] w fun e w' => e = .returned (.bool false) ∧ w = w' := by
  go_enter Tryd.func49, Tryd.ntmps49
  go_wp2
  go_loop [5] (fun i => i = .int .i64 0 ∨ i = .int .i64 1) (fun i => 5 - (intOf i).toNat)
  case atStart => exact .inl rfl
  case round =>
    rcases hrel with rfl | rfl
    · go_wp2
      go_round
      case rel => exact (.inr rfl)
      case measure => decide
    · go_wp2
      go_ret
      exact ⟨rfl, rfl⟩
set_option maxHeartbeats 1000000 in
theorem hasA_O (w : World) : Calls Tryd.prog 49 #[.string ⟨#[]⟩, .int .u8 65] w fun e w' => e = .returned (.bool false) ∧ w = w' := by
  go_enter Tryd.func49, Tryd.ntmps49
  go_wp2
  go_loop [5] (fun i => i = .int .i64 0) (fun i => 5 - (intOf i).toNat)
  case atStart => exact rfl
  case round =>
    obtain rfl := hrel
    go_wp2
    go_ret
    exact ⟨rfl, rfl⟩
set_option maxHeartbeats 1000000 in
theorem hasA_A (w : World) : Calls Tryd.prog 49 #[.string ⟨#[65]⟩, .int .u8 65] w fun e w' => e = .returned (.bool true) ∧ w = w' := by
  go_enter Tryd.func49, Tryd.ntmps49
  go_wp2
  go_loop [5] (fun i => i = .int .i64 0) (fun i => 5 - (intOf i).toNat)
  case atStart => exact rfl
  case round =>
    obtain rfl := hrel
    go_wp2
    go_ret
    exact ⟨rfl, rfl⟩
set_option maxHeartbeats 1000000 in
theorem hasB_AN (w : World) : Calls Tryd.prog 49 #[.string ⟨#[65, 78]⟩, .int .u8 66] w fun e w' => e = .returned (.bool false) ∧ w = w' := by
  go_enter Tryd.func49, Tryd.ntmps49
  go_wp2
  go_loop [5] (fun i => i = .int .i64 0 ∨ i = .int .i64 1 ∨ i = .int .i64 2) (fun i => 5 - (intOf i).toNat)
  case atStart => exact .inl rfl
  case round =>
    rcases hrel with rfl | rfl | rfl
    · go_wp2
      go_round
      case rel => exact (.inr (.inl rfl))
      case measure => decide
    · go_wp2
      go_round
      case rel => exact (.inr (.inr rfl))
      case measure => decide
    · go_wp2
      go_ret
      exact ⟨rfl, rfl⟩
set_option maxHeartbeats 1000000 in
theorem hasB_AB (w : World) : Calls Tryd.prog 49 #[.string ⟨#[65, 66]⟩, .int .u8 66] w fun e w' => e = .returned (.bool true) ∧ w = w' := by
  go_enter Tryd.func49, Tryd.ntmps49
  go_wp2
  go_loop [5] (fun i => i = .int .i64 0 ∨ i = .int .i64 1) (fun i => 5 - (intOf i).toNat)
  case atStart => exact .inl rfl
  case round =>
    rcases hrel with rfl | rfl
    · go_wp2
      go_round
      case rel => exact (.inr rfl)
      case measure => decide
    · go_wp2
      go_ret
      exact ⟨rfl, rfl⟩
set_option maxHeartbeats 1000000 in
theorem hasB_N (w : World) : Calls Tryd.prog 49 #[.string ⟨#[78]⟩, .int .u8 66] w fun e w' => e = .returned (.bool false) ∧ w = w' := by
  go_enter Tryd.func49, Tryd.ntmps49
  go_wp2
  go_loop [5] (fun i => i = .int .i64 0 ∨ i = .int .i64 1) (fun i => 5 - (intOf i).toNat)
  case atStart => exact .inl rfl
  case round =>
    rcases hrel with rfl | rfl
    · go_wp2
      go_round
      case rel => exact (.inr rfl)
      case measure => decide
    · go_wp2
      go_ret
      exact ⟨rfl, rfl⟩
set_option maxHeartbeats 1000000 in
theorem hasB_O (w : World) : Calls Tryd.prog 49 #[.string ⟨#[]⟩, .int .u8 66] w fun e w' => e = .returned (.bool false) ∧ w = w' := by
  go_enter Tryd.func49, Tryd.ntmps49
  go_wp2
  go_loop [5] (fun i => i = .int .i64 0) (fun i => 5 - (intOf i).toNat)
  case atStart => exact rfl
  case round =>
    obtain rfl := hrel
    go_wp2
    go_ret
    exact ⟨rfl, rfl⟩
set_option maxHeartbeats 1000000 in
theorem hasB_A (w : World) : Calls Tryd.prog 49 #[.string ⟨#[65]⟩, .int .u8 66] w fun e w' => e = .returned (.bool false) ∧ w = w' := by
  go_enter Tryd.func49, Tryd.ntmps49
  go_wp2
  go_loop [5] (fun i => i = .int .i64 0 ∨ i = .int .i64 1) (fun i => 5 - (intOf i).toNat)
  case atStart => exact .inl rfl
  case round =>
    rcases hrel with rfl | rfl
    · go_wp2
      go_round
      case rel => exact (.inr rfl)
      case measure => decide
    · go_wp2
      go_ret
      exact ⟨rfl, rfl⟩
set_option maxHeartbeats 1000000 in
theorem hasN_AN (w : World) : Calls Tryd.prog 49 #[.string ⟨#[65, 78]⟩, .int .u8 78] w fun e w' => e = .returned (.bool true) ∧ w = w' := by
  go_enter Tryd.func49, Tryd.ntmps49
  go_wp2
  go_loop [5] (fun i => i = .int .i64 0 ∨ i = .int .i64 1) (fun i => 5 - (intOf i).toNat)
  case atStart => exact .inl rfl
  case round =>
    rcases hrel with rfl | rfl
    · go_wp2
      go_round
      case rel => exact (.inr rfl)
      case measure => decide
    · go_wp2
      go_ret
      exact ⟨rfl, rfl⟩
set_option maxHeartbeats 1000000 in
theorem hasN_AB (w : World) : Calls Tryd.prog 49 #[.string ⟨#[65, 66]⟩, .int .u8 78] w fun e w' => e = .returned (.bool false) ∧ w = w' := by
  go_enter Tryd.func49, Tryd.ntmps49
  go_wp2
  go_loop [5] (fun i => i = .int .i64 0 ∨ i = .int .i64 1 ∨ i = .int .i64 2) (fun i => 5 - (intOf i).toNat)
  case atStart => exact .inl rfl
  case round =>
    rcases hrel with rfl | rfl | rfl
    · go_wp2
      go_round
      case rel => exact (.inr (.inl rfl))
      case measure => decide
    · go_wp2
      go_round
      case rel => exact (.inr (.inr rfl))
      case measure => decide
    · go_wp2
      go_ret
      exact ⟨rfl, rfl⟩
set_option maxHeartbeats 1000000 in
theorem hasN_N (w : World) : Calls Tryd.prog 49 #[.string ⟨#[78]⟩, .int .u8 78] w fun e w' => e = .returned (.bool true) ∧ w = w' := by
  go_enter Tryd.func49, Tryd.ntmps49
  go_wp2
  go_loop [5] (fun i => i = .int .i64 0) (fun i => 5 - (intOf i).toNat)
  case atStart => exact rfl
  case round =>
    obtain rfl := hrel
    go_wp2
    go_ret
    exact ⟨rfl, rfl⟩
set_option maxHeartbeats 1000000 in
theorem hasN_O (w : World) : Calls Tryd.prog 49 #[.string ⟨#[]⟩, .int .u8 78] w fun e w' => e = .returned (.bool false) ∧ w = w' := by
  go_enter Tryd.func49, Tryd.ntmps49
  go_wp2
  go_loop [5] (fun i => i = .int .i64 0) (fun i => 5 - (intOf i).toNat)
  case atStart => exact rfl
  case round =>
    obtain rfl := hrel
    go_wp2
    go_ret
    exact ⟨rfl, rfl⟩
set_option maxHeartbeats 1000000 in
theorem hasN_A (w : World) : Calls Tryd.prog 49 #[.string ⟨#[65]⟩, .int .u8 78] w fun e w' => e = .returned (.bool false) ∧ w = w' := by
  go_enter Tryd.func49, Tryd.ntmps49
  go_wp2
  go_loop [5] (fun i => i = .int .i64 0 ∨ i = .int .i64 1) (fun i => 5 - (intOf i).toNat)
  case atStart => exact .inl rfl
  case round =>
    rcases hrel with rfl | rfl
    · go_wp2
      go_round
      case rel => exact (.inr rfl)
      case measure => decide
    · go_wp2
      go_ret
      exact ⟨rfl, rfl⟩
end Go.Proofs.YtilaalleiiakoaaDoor
