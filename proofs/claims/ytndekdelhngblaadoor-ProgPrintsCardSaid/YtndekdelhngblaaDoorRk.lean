/- The document's Name, Shape, Has, reg of layer 9. -/
import Derived.Test.YtndekdelhngblaaDoorCh
namespace Go.Proofs.YtndekdelhngblaaDoor
open Go.RowKit

set_option maxHeartbeats 4000000 in
theorem refName_any (op : Int) (w : World) :
    Calls Tryd.prog 10 #[.int .i64 op] w fun e w' => e = .returned (.string (nameS op)) ∧ w = w' := by
  by_cases h : op < 1 ∨ 14 < op
  · rw [nameS_none h]
    rcases h with h | h
    · go_enter Tryd.func10, Tryd.ntmps10
      go_wp2
      go_ret
      exact ⟨rfl, rfl⟩
    · have h0 : decide (op < 1) = false := by simp; omega
      go_enter Tryd.func10, Tryd.ntmps10
      go_wp2
      go_ret
      exact ⟨rfl, rfl⟩
  · have hl : op = 1 ∨ op = 2 ∨ op = 3 ∨ op = 4 ∨ op = 5 ∨ op = 6 ∨ op = 7 ∨ op = 8 ∨ op = 9 ∨ op = 10 ∨ op = 11 ∨ op = 12 ∨ op = 13 ∨ op = 14 := by omega
    clear h
    rcases hl with rfl | rfl | rfl | rfl | rfl | rfl | rfl | rfl | rfl | rfl | rfl | rfl | rfl | rfl
    · go_enter Tryd.func10, Tryd.ntmps10
      go_wp2
      go_loop [4] (fun s => s = .string ⟨#[115, 101, 116, 32, 32, 32]⟩ ∨ s = .string ⟨#[115, 101, 116, 32, 32]⟩ ∨ s = .string ⟨#[115, 101, 116, 32]⟩ ∨ s = .string ⟨#[115, 101, 116]⟩) (fun s => match s with | .string b => b.size | _ => 0)
      case atStart => exact .inl rfl
      case round =>
        rcases hrel with rfl | rfl | rfl | rfl
        · go_wp2
          go_round
          case rel => exact (.inr (.inl rfl))
          case measure => decide
        · go_wp2
          go_round
          case rel => exact (.inr (.inr (.inl rfl)))
          case measure => decide
        · go_wp2
          go_round
          case rel => exact (.inr (.inr (.inr rfl)))
          case measure => decide
        · go_wp2
          go_ret
          exact ⟨rfl, rfl⟩
    · go_enter Tryd.func10, Tryd.ntmps10
      go_wp2
      go_loop [4] (fun s => s = .string ⟨#[97, 100, 100, 32, 32, 32]⟩ ∨ s = .string ⟨#[97, 100, 100, 32, 32]⟩ ∨ s = .string ⟨#[97, 100, 100, 32]⟩ ∨ s = .string ⟨#[97, 100, 100]⟩) (fun s => match s with | .string b => b.size | _ => 0)
      case atStart => exact .inl rfl
      case round =>
        rcases hrel with rfl | rfl | rfl | rfl
        · go_wp2
          go_round
          case rel => exact (.inr (.inl rfl))
          case measure => decide
        · go_wp2
          go_round
          case rel => exact (.inr (.inr (.inl rfl)))
          case measure => decide
        · go_wp2
          go_round
          case rel => exact (.inr (.inr (.inr rfl)))
          case measure => decide
        · go_wp2
          go_ret
          exact ⟨rfl, rfl⟩
    · go_enter Tryd.func10, Tryd.ntmps10
      go_wp2
      go_loop [4] (fun s => s = .string ⟨#[115, 117, 98, 32, 32, 32]⟩ ∨ s = .string ⟨#[115, 117, 98, 32, 32]⟩ ∨ s = .string ⟨#[115, 117, 98, 32]⟩ ∨ s = .string ⟨#[115, 117, 98]⟩) (fun s => match s with | .string b => b.size | _ => 0)
      case atStart => exact .inl rfl
      case round =>
        rcases hrel with rfl | rfl | rfl | rfl
        · go_wp2
          go_round
          case rel => exact (.inr (.inl rfl))
          case measure => decide
        · go_wp2
          go_round
          case rel => exact (.inr (.inr (.inl rfl)))
          case measure => decide
        · go_wp2
          go_round
          case rel => exact (.inr (.inr (.inr rfl)))
          case measure => decide
        · go_wp2
          go_ret
          exact ⟨rfl, rfl⟩
    · go_enter Tryd.func10, Tryd.ntmps10
      go_wp2
      go_loop [4] (fun s => s = .string ⟨#[106, 117, 109, 112, 32, 32]⟩ ∨ s = .string ⟨#[106, 117, 109, 112, 32]⟩ ∨ s = .string ⟨#[106, 117, 109, 112]⟩) (fun s => match s with | .string b => b.size | _ => 0)
      case atStart => exact .inl rfl
      case round =>
        rcases hrel with rfl | rfl | rfl
        · go_wp2
          go_round
          case rel => exact (.inr (.inl rfl))
          case measure => decide
        · go_wp2
          go_round
          case rel => exact (.inr (.inr rfl))
          case measure => decide
        · go_wp2
          go_ret
          exact ⟨rfl, rfl⟩
    · go_enter Tryd.func10, Tryd.ntmps10
      go_wp2
      go_loop [4] (fun s => s = .string ⟨#[106, 110, 122, 32, 32, 32]⟩ ∨ s = .string ⟨#[106, 110, 122, 32, 32]⟩ ∨ s = .string ⟨#[106, 110, 122, 32]⟩ ∨ s = .string ⟨#[106, 110, 122]⟩) (fun s => match s with | .string b => b.size | _ => 0)
      case atStart => exact .inl rfl
      case round =>
        rcases hrel with rfl | rfl | rfl | rfl
        · go_wp2
          go_round
          case rel => exact (.inr (.inl rfl))
          case measure => decide
        · go_wp2
          go_round
          case rel => exact (.inr (.inr (.inl rfl)))
          case measure => decide
        · go_wp2
          go_round
          case rel => exact (.inr (.inr (.inr rfl)))
          case measure => decide
        · go_wp2
          go_ret
          exact ⟨rfl, rfl⟩
    · go_enter Tryd.func10, Tryd.ntmps10
      go_wp2
      go_loop [4] (fun s => s = .string ⟨#[121, 105, 101, 108, 100, 32]⟩ ∨ s = .string ⟨#[121, 105, 101, 108, 100]⟩) (fun s => match s with | .string b => b.size | _ => 0)
      case atStart => exact .inl rfl
      case round =>
        rcases hrel with rfl | rfl
        · go_wp2
          go_round
          case rel => exact (.inr rfl)
          case measure => decide
        · go_wp2
          go_ret
          exact ⟨rfl, rfl⟩
    · go_enter Tryd.func10, Tryd.ntmps10
      go_wp2
      go_loop [4] (fun s => s = .string ⟨#[115, 112, 97, 119, 110, 32]⟩ ∨ s = .string ⟨#[115, 112, 97, 119, 110]⟩) (fun s => match s with | .string b => b.size | _ => 0)
      case atStart => exact .inl rfl
      case round =>
        rcases hrel with rfl | rfl
        · go_wp2
          go_round
          case rel => exact (.inr rfl)
          case measure => decide
        · go_wp2
          go_ret
          exact ⟨rfl, rfl⟩
    · go_enter Tryd.func10, Tryd.ntmps10
      go_wp2
      go_loop [4] (fun s => s = .string ⟨#[106, 111, 105, 110, 32, 32]⟩ ∨ s = .string ⟨#[106, 111, 105, 110, 32]⟩ ∨ s = .string ⟨#[106, 111, 105, 110]⟩) (fun s => match s with | .string b => b.size | _ => 0)
      case atStart => exact .inl rfl
      case round =>
        rcases hrel with rfl | rfl | rfl
        · go_wp2
          go_round
          case rel => exact (.inr (.inl rfl))
          case measure => decide
        · go_wp2
          go_round
          case rel => exact (.inr (.inr rfl))
          case measure => decide
        · go_wp2
          go_ret
          exact ⟨rfl, rfl⟩
    · go_enter Tryd.func10, Tryd.ntmps10
      go_wp2
      go_loop [4] (fun s => s = .string ⟨#[108, 111, 99, 107, 32, 32]⟩ ∨ s = .string ⟨#[108, 111, 99, 107, 32]⟩ ∨ s = .string ⟨#[108, 111, 99, 107]⟩) (fun s => match s with | .string b => b.size | _ => 0)
      case atStart => exact .inl rfl
      case round =>
        rcases hrel with rfl | rfl | rfl
        · go_wp2
          go_round
          case rel => exact (.inr (.inl rfl))
          case measure => decide
        · go_wp2
          go_round
          case rel => exact (.inr (.inr rfl))
          case measure => decide
        · go_wp2
          go_ret
          exact ⟨rfl, rfl⟩
    · go_enter Tryd.func10, Tryd.ntmps10
      go_wp2
      go_loop [4] (fun s => s = .string ⟨#[117, 110, 108, 111, 99, 107]⟩) (fun s => match s with | .string b => b.size | _ => 0)
      case atStart => exact rfl
      case round =>
        obtain rfl := hrel
        go_wp2
        go_ret
        exact ⟨rfl, rfl⟩
    · go_enter Tryd.func10, Tryd.ntmps10
      go_wp2
      go_loop [4] (fun s => s = .string ⟨#[115, 108, 101, 101, 112, 32]⟩ ∨ s = .string ⟨#[115, 108, 101, 101, 112]⟩) (fun s => match s with | .string b => b.size | _ => 0)
      case atStart => exact .inl rfl
      case round =>
        rcases hrel with rfl | rfl
        · go_wp2
          go_round
          case rel => exact (.inr rfl)
          case measure => decide
        · go_wp2
          go_ret
          exact ⟨rfl, rfl⟩
    · go_enter Tryd.func10, Tryd.ntmps10
      go_wp2
      go_loop [4] (fun s => s = .string ⟨#[109, 97, 115, 107, 32, 32]⟩ ∨ s = .string ⟨#[109, 97, 115, 107, 32]⟩ ∨ s = .string ⟨#[109, 97, 115, 107]⟩) (fun s => match s with | .string b => b.size | _ => 0)
      case atStart => exact .inl rfl
      case round =>
        rcases hrel with rfl | rfl | rfl
        · go_wp2
          go_round
          case rel => exact (.inr (.inl rfl))
          case measure => decide
        · go_wp2
          go_round
          case rel => exact (.inr (.inr rfl))
          case measure => decide
        · go_wp2
          go_ret
          exact ⟨rfl, rfl⟩
    · go_enter Tryd.func10, Tryd.ntmps10
      go_wp2
      go_loop [4] (fun s => s = .string ⟨#[111, 117, 116, 32, 32, 32]⟩ ∨ s = .string ⟨#[111, 117, 116, 32, 32]⟩ ∨ s = .string ⟨#[111, 117, 116, 32]⟩ ∨ s = .string ⟨#[111, 117, 116]⟩) (fun s => match s with | .string b => b.size | _ => 0)
      case atStart => exact .inl rfl
      case round =>
        rcases hrel with rfl | rfl | rfl | rfl
        · go_wp2
          go_round
          case rel => exact (.inr (.inl rfl))
          case measure => decide
        · go_wp2
          go_round
          case rel => exact (.inr (.inr (.inl rfl)))
          case measure => decide
        · go_wp2
          go_round
          case rel => exact (.inr (.inr (.inr rfl)))
          case measure => decide
        · go_wp2
          go_ret
          exact ⟨rfl, rfl⟩
    · go_enter Tryd.func10, Tryd.ntmps10
      go_wp2
      go_loop [4] (fun s => s = .string ⟨#[101, 120, 105, 116, 32, 32]⟩ ∨ s = .string ⟨#[101, 120, 105, 116, 32]⟩ ∨ s = .string ⟨#[101, 120, 105, 116]⟩) (fun s => match s with | .string b => b.size | _ => 0)
      case atStart => exact .inl rfl
      case round =>
        rcases hrel with rfl | rfl | rfl
        · go_wp2
          go_round
          case rel => exact (.inr (.inl rfl))
          case measure => decide
        · go_wp2
          go_round
          case rel => exact (.inr (.inr rfl))
          case measure => decide
        · go_wp2
          go_ret
          exact ⟨rfl, rfl⟩
def shapeS (op : Int) : ByteArray :=
  if op = 1 ∨ op = 5 ∨ op = 7 ∨ op = 9 ∨ op = 10 ∨ op = 12 then ⟨#[65, 78]⟩
  else if op = 2 ∨ op = 3 ∨ op = 8 then ⟨#[65, 66]⟩
  else if op = 4 then ⟨#[78]⟩
  else if op = 6 then ⟨#[]⟩
  else ⟨#[65]⟩
set_option maxHeartbeats 4000000 in
theorem shape_any (op : Int) (w : World) :
    Calls Tryd.prog 19 #[.int .i64 op] w (GotB w.heap.size (.string (shapeS op)) w) := by
  have HB := Lib.hid ((Below.refl w.heap.size w).alloc (Nat.le_refl _) (.cells #[.string ⟨#[]⟩, .string ⟨#[65, 78]⟩, .string ⟨#[65, 66]⟩, .string ⟨#[65, 66]⟩, .string ⟨#[78]⟩, .string ⟨#[65, 78]⟩, .string ⟨#[]⟩, .string ⟨#[65, 78]⟩, .string ⟨#[65, 66]⟩, .string ⟨#[65, 78]⟩, .string ⟨#[65, 78]⟩, .string ⟨#[65]⟩, .string ⟨#[65, 78]⟩, .string ⟨#[65]⟩, .string ⟨#[65]⟩] 9))
  by_cases h : op < 1 ∨ 14 < op
  · have e : shapeS op = ⟨#[65]⟩ := by
      unfold shapeS; rw [if_neg (by omega), if_neg (by omega), if_neg (by omega), if_neg (by omega)]
    rw [e]
    clear e
    rcases h with h | h
    · go_enter Tryd.func19, Tryd.ntmps19
      go_wp2
      go_ret
      exact ⟨rfl, HB.out⟩
    · have h0 : decide (op < 1) = false := by simp; omega
      go_enter Tryd.func19, Tryd.ntmps19
      go_wp2
      go_ret
      exact ⟨rfl, HB.out⟩
  · have hl : op = 1 ∨ op = 2 ∨ op = 3 ∨ op = 4 ∨ op = 5 ∨ op = 6 ∨ op = 7 ∨ op = 8 ∨ op = 9 ∨ op = 10 ∨ op = 11 ∨ op = 12 ∨ op = 13 ∨ op = 14 := by omega
    clear h
    rcases hl with rfl | rfl | rfl | rfl | rfl | rfl | rfl | rfl | rfl | rfl | rfl | rfl | rfl | rfl
    all_goals
      go_enter Tryd.func19, Tryd.ntmps19
      go_wp2
      go_ret
      exact ⟨rfl, HB.out⟩
set_option maxHeartbeats 2000000 in
theorem reg_any (r : Int) (had : Bool) (w : World) :
    Calls Tryd.prog 20 #[.bool had, .int .i64 r] w fun e w' => e = .returned (.bool (!regOk r had)) ∧ w = w' := by
  by_cases h0 : r = 0
  · subst h0
    cases had
    all_goals
      go_enter Tryd.func20, Tryd.ntmps20
      go_wp2
      go_ret
      exact ⟨rfl, rfl⟩
  · have t : (r != 0) = true := by simp [h0]
    cases had with
    | false =>
      have e : regOk r false = false := by simp [regOk, h0]
      rw [e]
      clear e h0
      go_enter Tryd.func20, Tryd.ntmps20
      go_wp2
      go_ret
      exact ⟨rfl, rfl⟩
    | true =>
      by_cases h1 : r < 0
      · have e : regOk r true = false := by simp [regOk]; omega
        rw [e]
        clear e h0
        go_enter Tryd.func20, Tryd.ntmps20
        go_wp2
        go_ret
        exact ⟨rfl, rfl⟩
      · have d1 : decide (r < 0) = false := by simp; omega
        by_cases h2 : 3 < r
        · have e : regOk r true = false := by simp [regOk]; omega
          rw [e]
          clear e h0 h1
          go_enter Tryd.func20, Tryd.ntmps20
          go_wp2
          go_ret
          exact ⟨rfl, rfl⟩
        · have e : regOk r true = true := by simp [regOk]; omega
          have d2 : decide (3 < r) = false := by simp; omega
          rw [e]
          clear e h0 h1 h2
          go_enter Tryd.func20, Tryd.ntmps20
          go_wp2
          go_ret
          exact ⟨rfl, rfl⟩
end Go.Proofs.YtndekdelhngblaaDoor
