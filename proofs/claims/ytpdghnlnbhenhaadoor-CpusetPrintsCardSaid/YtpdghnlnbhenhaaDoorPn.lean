/- The contracts of cpuset.isDigit, parseNumber, parseItem. -/
import Derived.Test.YtpdghnlnbhenhaaDoorPm
import Derived.Test.YtpdghnlnbhenhaaDoorSo
namespace Go.Proofs.YtpdghnlnbhenhaaDoor
open Go.RowKit

set_option maxHeartbeats 400000 in
theorem isDigit_yes (c : Nat) (w : World) (h : digB c = true) :
    Calls Tryd.prog 43 #[.int .u8 c] w fun e w' => e = .returned (.bool true) ∧ w = w' := by
  simp only [digB, decide_eq_true_eq] at h
  obtain ⟨h1, h2⟩ := h
  have d1 : decide ((48 : Int) ≤ (c : Int)) = true := by simp; omega
  have d2 : decide ((c : Int) ≤ 57) = true := by simp; omega
  go_enter Tryd.func43, Tryd.ntmps43
  go_wp2
  go_ret
  exact ⟨rfl, rfl⟩
set_option maxHeartbeats 400000 in
theorem isDigit_no (c : Nat) (w : World) (h : digB c = false) :
    Calls Tryd.prog 43 #[.int .u8 c] w fun e w' => e = .returned (.bool false) ∧ w = w' := by
  simp only [digB, decide_eq_false_iff_not] at h
  by_cases h1 : 48 ≤ c
  · have d1 : decide ((48 : Int) ≤ (c : Int)) = true := by simp; omega
    have d2 : decide ((c : Int) ≤ 57) = false := by simp; omega
    go_enter Tryd.func43, Tryd.ntmps43
    go_wp2
    go_ret
    exact ⟨rfl, rfl⟩
  · have d1 : decide ((48 : Int) ≤ (c : Int)) = false := by simp; omega
    go_enter Tryd.func43, Tryd.ntmps43
    go_wp2
    go_ret
    exact ⟨rfl, rfl⟩

set_option maxHeartbeats 1000000 in
theorem number_any (s : ByteArray) (i : Nat) (w : World) (hs : s.size ≤ 100000) (hi : i ≤ s.size) :
    Calls Tryd.prog 41 #[.string s, .int .i64 i] w fun e w' => e = .returned (.tuple #[.int .i64 (numberR (byteAt s) s.size i).1, .int .i64 (numberR (byteAt s) s.size i).2.1, .int .i64 (numberR (byteAt s) s.size i).2.2]) ∧ w = w' := by
  by_cases hend : i = s.size
  · have hR : numberR (byteAt s) s.size i = (0, i, 22) := by unfold numberR; rw [if_pos hend]
    rw [hR]
    have ht : ((i : Int) == (s.size : Int)) = true := by simp; omega
    clear hend hR
    go_enter Tryd.func41, Tryd.ntmps41
    go_wp2
    go_ret3
    exact ⟨rfl, rfl⟩
  · have ht : ((i : Int) == (s.size : Int)) = false := by simp; omega
    go_enter Tryd.func41, Tryd.ntmps41
    go_wp2
    go_loop [4, 5] (fun n e => ∃ k : Nat, i ≤ k ∧ k ≤ s.size ∧ e = .int .i64 k ∧ n = .int .i64 (numV (byteAt s) i (k - i)) ∧ ∀ j, i ≤ j → j < k → digB (byteAt s j) = true) (fun _ e => s.size - (intOf e).toNat)
    case atStart => exact ⟨i, by omega, by omega, rfl, by simp [numV], fun j a b => by omega⟩
    case round =>
      obtain ⟨k, hik, hk, rfl, rfl, hd⟩ := hrel
      have HD := Lib.hid hd; clear hd
      have hv := numV_le (byteAt s) i (k - i)
      by_cases hgo : k < s.size ∧ digB (byteAt s k) = true
      · obtain ⟨hlt, hdg⟩ := hgo
        have hat := byteAt_eq s k hlt
        have hdg2 := hdg
        simp only [digB, decide_eq_true_eq] at hdg2
        obtain ⟨c1, c2⟩ := hdg2
        have hnext : numV (byteAt s) i (k + 1 - i) = min (numV (byteAt s) i (k - i) * 10 + (byteAt s k - 48)) 1024 := by
          rw [show k + 1 - i = (k - i) + 1 by omega, numV, show i + (k - i) = k by omega]
        have HN := Lib.hid hnext; clear hnext
        have HG := Lib.hid hdg; clear hdg
        go_wp2_with (go_at_call 43; refine (isDigit_yes _ _ HG.out).mono ?_; rintro e w' ⟨rfl, rfl⟩)
        go_round
        case rel =>
          refine ⟨k + 1, by omega, by omega, by go_num, ?_, ?_⟩
          · rw [HN.out]; congr 1; split <;> omega
          · intro j a b
            by_cases e : j = k
            · subst e; exact HG.out
            · exact HD.out j a (by omega)
        case measure => simp [intOf]; omega
      · have hE : numEnd (byteAt s) s.size i = k := numEnd_eq _ _ _ _ hik hk HD.out (by
          by_cases h : k = s.size
          · exact .inl h
          · exact .inr (by have := fun h2 => hgo ⟨(by omega), h2⟩; simpa using this))
        have hi' : i < s.size := by omega
        have hat := byteAt_eq s i hi'
        have hR : numberR (byteAt s) s.size i = if k = i then (0, i, 20) else if 1024 ≤ numV (byteAt s) i (k - i) then (0, i, 26) else if byteAt s i = 48 ∧ i + 1 < k then (0, i, 26) else (numV (byteAt s) i (k - i), k, 0) := by
          unfold numberR; rw [if_neg hend, hE]
        have hend' := Lib.hid hend
        clear hend hE HD
        have hgo' : k = s.size ∨ (k < s.size ∧ digB (byteAt s k) = false) := by
          by_cases h : k = s.size
          · exact .inl h
          · exact .inr ⟨by omega, by have := fun h2 => hgo ⟨(by omega), h2⟩; simpa using this⟩
        clear hgo
        have hres : (k = i ∧ numberR (byteAt s) s.size i = (0, i, 20)) ∨ (i < k ∧ 1024 ≤ numV (byteAt s) i (k - i) ∧ numberR (byteAt s) s.size i = (0, i, 26)) ∨
            (i < k ∧ numV (byteAt s) i (k - i) < 1024 ∧ byteAt s i = 48 ∧ i + 1 < k ∧ numberR (byteAt s) s.size i = (0, i, 26)) ∨
            (i < k ∧ numV (byteAt s) i (k - i) < 1024 ∧ byteAt s i = 48 ∧ ¬ i + 1 < k ∧ numberR (byteAt s) s.size i = (numV (byteAt s) i (k - i), k, 0)) ∨
            (i < k ∧ numV (byteAt s) i (k - i) < 1024 ∧ byteAt s i ≠ 48 ∧ numberR (byteAt s) s.size i = (numV (byteAt s) i (k - i), k, 0)) := by
          rw [hR]
          by_cases a : k = i
          · exact .inl ⟨a, by rw [if_pos a]⟩
          · rw [if_neg a]
            by_cases b : 1024 ≤ numV (byteAt s) i (k - i)
            · exact .inr (.inl ⟨by omega, b, by rw [if_pos b]⟩)
            · rw [if_neg b]
              by_cases c : byteAt s i = 48
              · by_cases d : i + 1 < k
                · exact .inr (.inr (.inl ⟨by omega, by omega, c, d, by rw [if_pos ⟨c, d⟩]⟩))
                · exact .inr (.inr (.inr (.inl ⟨by omega, by omega, c, d, by rw [if_neg (fun h => d h.2)]⟩)))
              · exact .inr (.inr (.inr (.inr ⟨by omega, by omega, c, by rw [if_neg (fun h => c h.1)]⟩)))
        clear hR
        generalize hN : numV (byteAt s) i (k - i) = N at *
        have hN' := Lib.hid hN; clear hN
        rcases hres with ⟨a, e⟩ | ⟨a, b, e⟩ | ⟨a, b, c, d, e⟩ | ⟨a, b, c, d, e⟩ | ⟨a, b, c, e⟩
        · have E := Lib.hid e; clear e
          subst a
          rcases hgo' with g | ⟨g1, g2⟩
          · omega
          · have hatk := byteAt_eq s k g1
            have G2 := Lib.hid g2; clear g2
            go_wp2_with (go_at_call 43; refine (isDigit_no _ _ G2.out).mono ?_; rintro e w' ⟨rfl, rfl⟩)
            go_ret3
            exact ⟨by rw [E.out] <;> rfl, rfl⟩
        · have E := Lib.hid e; clear e
          have t1 : ((k : Int) == (i : Int)) = false := by simp; omega
          have t2 : decide ((1024 : Int) ≤ (N : Int)) = true := by simp; omega
          rcases hgo' with g | ⟨g1, g2⟩
          · have t0 : decide (k < s.size) = false := by simp; omega
            clear g
            go_wp2_with fail
            go_ret3
            exact ⟨by rw [E.out] <;> rfl, rfl⟩
          · have hatk := byteAt_eq s k g1
            have G2 := Lib.hid g2; clear g2
            go_wp2_with (go_at_call 43; refine (isDigit_no _ _ G2.out).mono ?_; rintro e w' ⟨rfl, rfl⟩)
            go_ret3
            exact ⟨by rw [E.out] <;> rfl, rfl⟩
        · have E := Lib.hid e; clear e
          have t1 : ((k : Int) == (i : Int)) = false := by simp; omega
          have t2 : decide ((1024 : Int) ≤ (N : Int)) = false := by simp; omega
          have t3 : ((byteAt s i : Int) == 48) = true := by simp; omega
          have t4 : decide ((i : Int) + 1 < (k : Int)) = true := by simp; omega
          clear c
          rcases hgo' with g | ⟨g1, g2⟩
          · have t0 : decide (k < s.size) = false := by simp; omega
            clear g
            go_wp2_with fail
            go_ret3
            exact ⟨by rw [E.out] <;> rfl, rfl⟩
          · have hatk := byteAt_eq s k g1
            have G2 := Lib.hid g2; clear g2
            go_wp2_with (go_at_call 43; refine (isDigit_no _ _ G2.out).mono ?_; rintro e w' ⟨rfl, rfl⟩)
            go_ret3
            exact ⟨by rw [E.out] <;> rfl, rfl⟩
        · have E := Lib.hid e; clear e
          have t1 : ((k : Int) == (i : Int)) = false := by simp; omega
          have t2 : decide ((1024 : Int) ≤ (N : Int)) = false := by simp; omega
          have t3 : ((byteAt s i : Int) == 48) = true := by simp; omega
          have t4 : decide ((i : Int) + 1 < (k : Int)) = false := by simp; omega
          clear c
          rcases hgo' with g | ⟨g1, g2⟩
          · have t0 : decide (k < s.size) = false := by simp; omega
            clear g
            go_wp2_with fail
            go_ret3
            exact ⟨by rw [E.out] <;> rfl, rfl⟩
          · have hatk := byteAt_eq s k g1
            have G2 := Lib.hid g2; clear g2
            go_wp2_with (go_at_call 43; refine (isDigit_no _ _ G2.out).mono ?_; rintro e w' ⟨rfl, rfl⟩)
            go_ret3
            exact ⟨by rw [E.out] <;> rfl, rfl⟩
        · have E := Lib.hid e; clear e
          have t1 : ((k : Int) == (i : Int)) = false := by simp; omega
          have t2 : decide ((1024 : Int) ≤ (N : Int)) = false := by simp; omega
          have t3 : ((byteAt s i : Int) == 48) = false := by simp; omega
          clear c
          rcases hgo' with g | ⟨g1, g2⟩
          · have t0 : decide (k < s.size) = false := by simp; omega
            clear g
            go_wp2_with fail
            go_ret3
            exact ⟨by rw [E.out] <;> rfl, rfl⟩
          · have hatk := byteAt_eq s k g1
            have G2 := Lib.hid g2; clear g2
            go_wp2_with (go_at_call 43; refine (isDigit_no _ _ G2.out).mono ?_; rintro e w' ⟨rfl, rfl⟩)
            go_ret3
            exact ⟨by rw [E.out] <;> rfl, rfl⟩

theorem num_form (s : ByteArray) (i f e r : Nat) (w : World) (hs : s.size ≤ 100000) (hi : i ≤ s.size) (h : numberR (byteAt s) s.size i = (f, e, r)) :
    Calls Tryd.prog 41 #[.string s, .int .i64 i] w fun x w' => x = .returned (.tuple #[.int .i64 f, .int .i64 e, .int .i64 r]) ∧ w = w' := by
  have := number_any s i w hs hi
  rw [h] at this
  exact this

set_option maxHeartbeats 1000000 in
theorem item_1 (s : ByteArray) (i f e1 er : Nat) (w : World) (n1 : ∀ w : World, Calls Tryd.prog 41 #[.string s, .int .i64 i] w fun x w' => x = .returned (.tuple #[.int .i64 f, .int .i64 e1, .int .i64 er]) ∧ w = w') (her : ((er : Int) != 0) = true)
    (E' : itemR (byteAt s) s.size i = (0, 0, i, er)) :
    Calls Tryd.prog 36 #[.string s, .int .i64 i] w fun e w' => e = .returned (.tuple #[.int .i64 (itemR (byteAt s) s.size i).1, .int .i64 (itemR (byteAt s) s.size i).2.1, .int .i64 (itemR (byteAt s) s.size i).2.2.1, .int .i64 (itemR (byteAt s) s.size i).2.2.2]) ∧ w = w' := by
  have E := Lib.hid E'; clear E'
  have N1 := Lib.hid n1; clear n1
  go_enter Tryd.func36, Tryd.ntmps36
  go_wp2_with fail
  refine (N1.out _).mono ?_
  rintro e w' ⟨rfl, rfl⟩
  go_wp2_with fail
  exact bodyPost_ret (v := .tuple #[.int .i64 0, .int .i64 0, .int .i64 i, .int .i64 er]) (by simp [results, Tryd.results36, go_sem]) rfl ⟨by rw [E.out] <;> rfl, rfl⟩

set_option maxHeartbeats 1000000 in
theorem item_single_end (s : ByteArray) (i f e1 : Nat) (w : World) (n1 : ∀ w : World, Calls Tryd.prog 41 #[.string s, .int .i64 i] w fun x w' => x = .returned (.tuple #[.int .i64 f, .int .i64 e1, .int .i64 0]) ∧ w = w') (t0 : decide (e1 < s.size) = false)
    (E' : itemR (byteAt s) s.size i = (f, f, e1, 0)) :
    Calls Tryd.prog 36 #[.string s, .int .i64 i] w fun e w' => e = .returned (.tuple #[.int .i64 (itemR (byteAt s) s.size i).1, .int .i64 (itemR (byteAt s) s.size i).2.1, .int .i64 (itemR (byteAt s) s.size i).2.2.1, .int .i64 (itemR (byteAt s) s.size i).2.2.2]) ∧ w = w' := by
  have E := Lib.hid E'; clear E'
  have N1 := Lib.hid n1; clear n1
  go_enter Tryd.func36, Tryd.ntmps36
  go_wp2_with fail
  refine (N1.out _).mono ?_
  rintro e w' ⟨rfl, rfl⟩
  go_wp2_with fail
  exact bodyPost_ret (v := .tuple #[.int .i64 f, .int .i64 f, .int .i64 e1, .int .i64 0]) (by simp [results, Tryd.results36, go_sem]) rfl ⟨by rw [E.out] <;> rfl, rfl⟩

set_option maxHeartbeats 1000000 in
theorem item_single_bad (s : ByteArray) (i f e1 : Nat) (w : World) (n1 : ∀ w : World, Calls Tryd.prog 41 #[.string s, .int .i64 i] w fun x w' => x = .returned (.tuple #[.int .i64 f, .int .i64 e1, .int .i64 0]) ∧ w = w') (hlt : e1 < s.size) (d : ((byteAt s e1 : Int) == 45) = false) (t1 : ((byteAt s e1 : Int) != 44) = true)
    (E' : itemR (byteAt s) s.size i = (0, 0, e1, 20)) :
    Calls Tryd.prog 36 #[.string s, .int .i64 i] w fun e w' => e = .returned (.tuple #[.int .i64 (itemR (byteAt s) s.size i).1, .int .i64 (itemR (byteAt s) s.size i).2.1, .int .i64 (itemR (byteAt s) s.size i).2.2.1, .int .i64 (itemR (byteAt s) s.size i).2.2.2]) ∧ w = w' := by
  have E := Lib.hid E'; clear E'
  have N1 := Lib.hid n1; clear n1
  have hat := byteAt_eq s e1 hlt
  go_enter Tryd.func36, Tryd.ntmps36
  go_wp2_with fail
  refine (N1.out _).mono ?_
  rintro e w' ⟨rfl, rfl⟩
  go_wp2_with fail
  exact bodyPost_ret (v := .tuple #[.int .i64 0, .int .i64 0, .int .i64 e1, .int .i64 20]) (by simp [results, Tryd.results36, go_sem]) rfl ⟨by rw [E.out] <;> rfl, rfl⟩

set_option maxHeartbeats 1000000 in
theorem item_single_comma (s : ByteArray) (i f e1 : Nat) (w : World) (n1 : ∀ w : World, Calls Tryd.prog 41 #[.string s, .int .i64 i] w fun x w' => x = .returned (.tuple #[.int .i64 f, .int .i64 e1, .int .i64 0]) ∧ w = w') (hlt : e1 < s.size) (d : ((byteAt s e1 : Int) == 45) = false) (t1 : ((byteAt s e1 : Int) != 44) = false)
    (E' : itemR (byteAt s) s.size i = (f, f, e1, 0)) :
    Calls Tryd.prog 36 #[.string s, .int .i64 i] w fun e w' => e = .returned (.tuple #[.int .i64 (itemR (byteAt s) s.size i).1, .int .i64 (itemR (byteAt s) s.size i).2.1, .int .i64 (itemR (byteAt s) s.size i).2.2.1, .int .i64 (itemR (byteAt s) s.size i).2.2.2]) ∧ w = w' := by
  have E := Lib.hid E'; clear E'
  have N1 := Lib.hid n1; clear n1
  have hat := byteAt_eq s e1 hlt
  go_enter Tryd.func36, Tryd.ntmps36
  go_wp2_with fail
  refine (N1.out _).mono ?_
  rintro e w' ⟨rfl, rfl⟩
  go_wp2_with fail
  exact bodyPost_ret (v := .tuple #[.int .i64 f, .int .i64 f, .int .i64 e1, .int .i64 0]) (by simp [results, Tryd.results36, go_sem]) rfl ⟨by rw [E.out] <;> rfl, rfl⟩

set_option maxHeartbeats 1000000 in
theorem item_two_err (s : ByteArray) (i f e1 g e2 er : Nat) (w : World) (n1 : ∀ w : World, Calls Tryd.prog 41 #[.string s, .int .i64 i] w fun x w' => x = .returned (.tuple #[.int .i64 f, .int .i64 e1, .int .i64 0]) ∧ w = w') (hs : s.size ≤ 100000) (hlt1 : e1 < s.size) (d : ((byteAt s e1 : Int) == 45) = true) (n2 : ∀ w : World, Calls Tryd.prog 41 #[.string s, .int .i64 ((e1 : Int) + 1)] w fun x w' => x = .returned (.tuple #[.int .i64 g, .int .i64 e2, .int .i64 er]) ∧ w = w') (h1 : ((er : Int) == 0) = false) (h2 : ((er : Int) != 0) = true)
    (E' : itemR (byteAt s) s.size i = (0, 0, e1 + 1, er)) :
    Calls Tryd.prog 36 #[.string s, .int .i64 i] w fun e w' => e = .returned (.tuple #[.int .i64 (itemR (byteAt s) s.size i).1, .int .i64 (itemR (byteAt s) s.size i).2.1, .int .i64 (itemR (byteAt s) s.size i).2.2.1, .int .i64 (itemR (byteAt s) s.size i).2.2.2]) ∧ w = w' := by
  have E := Lib.hid E'; clear E'
  have N1 := Lib.hid n1; clear n1
  have N2 := Lib.hid n2; clear n2
  have hat := byteAt_eq s e1 hlt1
  go_enter Tryd.func36, Tryd.ntmps36
  go_wp2_with fail
  refine (N1.out _).mono ?_
  rintro e w' ⟨rfl, rfl⟩
  go_wp2_with fail
  refine (N2.out _).mono ?_
  rintro e w' ⟨rfl, rfl⟩
  go_wp2_with fail
  exact bodyPost_ret (v := .tuple #[.int .i64 0, .int .i64 0, .int .i64 ((e1 : Int) + 1), .int .i64 er]) (by simp [results, Tryd.results36, go_sem]) rfl ⟨by rw [E.out] <;> rfl, rfl⟩

set_option maxHeartbeats 1000000 in
theorem item_two_size (s : ByteArray) (i f e1 g e2 : Nat) (w : World) (n1 : ∀ w : World, Calls Tryd.prog 41 #[.string s, .int .i64 i] w fun x w' => x = .returned (.tuple #[.int .i64 f, .int .i64 e1, .int .i64 0]) ∧ w = w') (hs : s.size ≤ 100000) (hlt1 : e1 < s.size) (d : ((byteAt s e1 : Int) == 45) = true) (n2 : ∀ w : World, Calls Tryd.prog 41 #[.string s, .int .i64 ((e1 : Int) + 1)] w fun x w' => x = .returned (.tuple #[.int .i64 g, .int .i64 e2, .int .i64 0]) ∧ w = w') (h1 : decide (g < f) = true)
    (E' : itemR (byteAt s) s.size i = (0, 0, e1 + 1, 26)) :
    Calls Tryd.prog 36 #[.string s, .int .i64 i] w fun e w' => e = .returned (.tuple #[.int .i64 (itemR (byteAt s) s.size i).1, .int .i64 (itemR (byteAt s) s.size i).2.1, .int .i64 (itemR (byteAt s) s.size i).2.2.1, .int .i64 (itemR (byteAt s) s.size i).2.2.2]) ∧ w = w' := by
  have E := Lib.hid E'; clear E'
  have N1 := Lib.hid n1; clear n1
  have N2 := Lib.hid n2; clear n2
  have hat := byteAt_eq s e1 hlt1
  go_enter Tryd.func36, Tryd.ntmps36
  go_wp2_with fail
  refine (N1.out _).mono ?_
  rintro e w' ⟨rfl, rfl⟩
  go_wp2_with fail
  refine (N2.out _).mono ?_
  rintro e w' ⟨rfl, rfl⟩
  go_wp2_with fail
  exact bodyPost_ret (v := .tuple #[.int .i64 0, .int .i64 0, .int .i64 ((e1 : Int) + 1), .int .i64 26]) (by simp [results, Tryd.results36, go_sem]) rfl ⟨by rw [E.out] <;> rfl, rfl⟩

set_option maxHeartbeats 1000000 in
theorem item_two_end (s : ByteArray) (i f e1 g e2 : Nat) (w : World) (n1 : ∀ w : World, Calls Tryd.prog 41 #[.string s, .int .i64 i] w fun x w' => x = .returned (.tuple #[.int .i64 f, .int .i64 e1, .int .i64 0]) ∧ w = w') (hs : s.size ≤ 100000) (hlt1 : e1 < s.size) (d : ((byteAt s e1 : Int) == 45) = true) (n2 : ∀ w : World, Calls Tryd.prog 41 #[.string s, .int .i64 ((e1 : Int) + 1)] w fun x w' => x = .returned (.tuple #[.int .i64 g, .int .i64 e2, .int .i64 0]) ∧ w = w') (h1 : decide (g < f) = false) (t0 : decide (e2 < s.size) = false)
    (E' : itemR (byteAt s) s.size i = (f, g, e2, 0)) :
    Calls Tryd.prog 36 #[.string s, .int .i64 i] w fun e w' => e = .returned (.tuple #[.int .i64 (itemR (byteAt s) s.size i).1, .int .i64 (itemR (byteAt s) s.size i).2.1, .int .i64 (itemR (byteAt s) s.size i).2.2.1, .int .i64 (itemR (byteAt s) s.size i).2.2.2]) ∧ w = w' := by
  have E := Lib.hid E'; clear E'
  have N1 := Lib.hid n1; clear n1
  have N2 := Lib.hid n2; clear n2
  have hat := byteAt_eq s e1 hlt1
  go_enter Tryd.func36, Tryd.ntmps36
  go_wp2_with fail
  refine (N1.out _).mono ?_
  rintro e w' ⟨rfl, rfl⟩
  go_wp2_with fail
  refine (N2.out _).mono ?_
  rintro e w' ⟨rfl, rfl⟩
  go_wp2_with fail
  exact bodyPost_ret (v := .tuple #[.int .i64 f, .int .i64 g, .int .i64 e2, .int .i64 0]) (by simp [results, Tryd.results36, go_sem]) rfl ⟨by rw [E.out] <;> rfl, rfl⟩

set_option maxHeartbeats 1000000 in
theorem item_two_bad (s : ByteArray) (i f e1 g e2 : Nat) (w : World) (n1 : ∀ w : World, Calls Tryd.prog 41 #[.string s, .int .i64 i] w fun x w' => x = .returned (.tuple #[.int .i64 f, .int .i64 e1, .int .i64 0]) ∧ w = w') (hs : s.size ≤ 100000) (hlt1 : e1 < s.size) (d : ((byteAt s e1 : Int) == 45) = true) (n2 : ∀ w : World, Calls Tryd.prog 41 #[.string s, .int .i64 ((e1 : Int) + 1)] w fun x w' => x = .returned (.tuple #[.int .i64 g, .int .i64 e2, .int .i64 0]) ∧ w = w') (h1 : decide (g < f) = false) (hlt : e2 < s.size) (t1 : ((byteAt s e2 : Int) != 44) = true)
    (E' : itemR (byteAt s) s.size i = (0, 0, e2, 20)) :
    Calls Tryd.prog 36 #[.string s, .int .i64 i] w fun e w' => e = .returned (.tuple #[.int .i64 (itemR (byteAt s) s.size i).1, .int .i64 (itemR (byteAt s) s.size i).2.1, .int .i64 (itemR (byteAt s) s.size i).2.2.1, .int .i64 (itemR (byteAt s) s.size i).2.2.2]) ∧ w = w' := by
  have E := Lib.hid E'; clear E'
  have N1 := Lib.hid n1; clear n1
  have N2 := Lib.hid n2; clear n2
  have hat := byteAt_eq s e1 hlt1
  have hat2 := byteAt_eq s e2 hlt
  go_enter Tryd.func36, Tryd.ntmps36
  go_wp2_with fail
  refine (N1.out _).mono ?_
  rintro e w' ⟨rfl, rfl⟩
  go_wp2_with fail
  refine (N2.out _).mono ?_
  rintro e w' ⟨rfl, rfl⟩
  go_wp2_with fail
  exact bodyPost_ret (v := .tuple #[.int .i64 0, .int .i64 0, .int .i64 e2, .int .i64 20]) (by simp [results, Tryd.results36, go_sem]) rfl ⟨by rw [E.out] <;> rfl, rfl⟩

set_option maxHeartbeats 1000000 in
theorem item_two_comma (s : ByteArray) (i f e1 g e2 : Nat) (w : World) (n1 : ∀ w : World, Calls Tryd.prog 41 #[.string s, .int .i64 i] w fun x w' => x = .returned (.tuple #[.int .i64 f, .int .i64 e1, .int .i64 0]) ∧ w = w') (hs : s.size ≤ 100000) (hlt1 : e1 < s.size) (d : ((byteAt s e1 : Int) == 45) = true) (n2 : ∀ w : World, Calls Tryd.prog 41 #[.string s, .int .i64 ((e1 : Int) + 1)] w fun x w' => x = .returned (.tuple #[.int .i64 g, .int .i64 e2, .int .i64 0]) ∧ w = w') (h1 : decide (g < f) = false) (hlt : e2 < s.size) (t1 : ((byteAt s e2 : Int) != 44) = false)
    (E' : itemR (byteAt s) s.size i = (f, g, e2, 0)) :
    Calls Tryd.prog 36 #[.string s, .int .i64 i] w fun e w' => e = .returned (.tuple #[.int .i64 (itemR (byteAt s) s.size i).1, .int .i64 (itemR (byteAt s) s.size i).2.1, .int .i64 (itemR (byteAt s) s.size i).2.2.1, .int .i64 (itemR (byteAt s) s.size i).2.2.2]) ∧ w = w' := by
  have E := Lib.hid E'; clear E'
  have N1 := Lib.hid n1; clear n1
  have N2 := Lib.hid n2; clear n2
  have hat := byteAt_eq s e1 hlt1
  have hat2 := byteAt_eq s e2 hlt
  go_enter Tryd.func36, Tryd.ntmps36
  go_wp2_with fail
  refine (N1.out _).mono ?_
  rintro e w' ⟨rfl, rfl⟩
  go_wp2_with fail
  refine (N2.out _).mono ?_
  rintro e w' ⟨rfl, rfl⟩
  go_wp2_with fail
  exact bodyPost_ret (v := .tuple #[.int .i64 f, .int .i64 g, .int .i64 e2, .int .i64 0]) (by simp [results, Tryd.results36, go_sem]) rfl ⟨by rw [E.out] <;> rfl, rfl⟩

theorem beqF {a b : Nat} (h : a ≠ b) : ((a : Int) == (b : Int)) = false := by simp; omega
theorem beqT {a b : Nat} (h : a = b) : ((a : Int) == (b : Int)) = true := by simp; omega
theorem bneF {a b : Nat} (h : a = b) : ((a : Int) != (b : Int)) = false := by simp; omega
theorem bneT {a b : Nat} (h : a ≠ b) : ((a : Int) != (b : Int)) = true := by simp; omega
/-- cpuset.parseItem, at every place of a text. -/
theorem item_any (s : ByteArray) (i : Nat) (w : World) (hs : s.size ≤ 100000) (hi : i ≤ s.size) :
    Calls Tryd.prog 36 #[.string s, .int .i64 i] w fun e w' => e = .returned (.tuple #[.int .i64 (itemR (byteAt s) s.size i).1, .int .i64 (itemR (byteAt s) s.size i).2.1, .int .i64 (itemR (byteAt s) s.size i).2.2.1, .int .i64 (itemR (byteAt s) s.size i).2.2.2]) ∧ w = w' := by
  obtain ⟨f, e1, er, h1⟩ : ∃ f e1 er, numberR (byteAt s) s.size i = (f, e1, er) := ⟨_, _, _, rfl⟩
  have n1 := fun w => num_form s i f e1 er w hs hi h1
  have l1 := numberR_le (byteAt s) s.size i hi
  rw [h1] at l1
  simp only at l1
  obtain ⟨lf, la, lb, lc, _⟩ := l1
  by_cases her : er = 0
  · subst her
    have hE : itemR (byteAt s) s.size i = if e1 < s.size ∧ byteAt s e1 = 45 then
        if (numberR (byteAt s) s.size (e1 + 1)).2.2 ≠ 0 then (0, 0, e1 + 1, (numberR (byteAt s) s.size (e1 + 1)).2.2)
        else if (numberR (byteAt s) s.size (e1 + 1)).1 < f then (0, 0, e1 + 1, 26)
        else tailR (byteAt s) s.size f (numberR (byteAt s) s.size (e1 + 1)).1 (numberR (byteAt s) s.size (e1 + 1)).2.1
      else tailR (byteAt s) s.size f f e1 := by
      unfold itemR; rw [h1]; simp only [ne_eq, not_true, if_false]
    by_cases hd : e1 < s.size ∧ byteAt s e1 = 45
    · rw [if_pos hd] at hE
      obtain ⟨hlt1, hd⟩ := hd
      obtain ⟨g, e2, er2, h2⟩ : ∃ g e2 er2, numberR (byteAt s) s.size (e1 + 1) = (g, e2, er2) := ⟨_, _, _, rfl⟩
      have n2 := fun w => num_form s (e1 + 1) g e2 er2 w hs (by omega) h2
      rw [show (((e1 + 1 : Nat)) : Int) = (e1 : Int) + 1 by omega] at n2
      rw [h2] at hE
      simp only at hE
      have d : ((byteAt s e1 : Int) == 45) = true := beqT hd
      by_cases her2 : er2 = 0
      · subst her2
        rw [if_neg (by simp)] at hE
        by_cases hgf : g < f
        · rw [if_pos hgf] at hE
          exact item_two_size s i f e1 g e2 w n1 hs hlt1 d n2 (by simp; omega) hE
        · rw [if_neg hgf] at hE
          unfold tailR at hE
          by_cases hlt : e2 < s.size
          · by_cases hc : byteAt s e2 = 44
            · rw [if_neg (fun h => h.2 hc)] at hE
              exact item_two_comma s i f e1 g e2 w n1 hs hlt1 d n2 (by simp; omega) hlt (bneF hc) hE
            · rw [if_pos ⟨hlt, hc⟩] at hE
              exact item_two_bad s i f e1 g e2 w n1 hs hlt1 d n2 (by simp; omega) hlt (bneT hc) hE
          · rw [if_neg (fun h => hlt h.1)] at hE
            exact item_two_end s i f e1 g e2 w n1 hs hlt1 d n2 (by simp; omega) (by simp; omega) hE
      · rw [if_pos her2] at hE
        exact item_two_err s i f e1 g e2 er2 w n1 hs hlt1 d n2 (beqF her2) (bneT her2) hE
    · rw [if_neg hd] at hE
      unfold tailR at hE
      by_cases hlt : e1 < s.size
      · have d : ((byteAt s e1 : Int) == 45) = false := beqF (fun h => hd ⟨hlt, h⟩)
        by_cases hc : byteAt s e1 = 44
        · rw [if_neg (fun h => h.2 hc)] at hE
          exact item_single_comma s i f e1 w n1 hlt d (bneF hc) hE
        · rw [if_pos ⟨hlt, hc⟩] at hE
          exact item_single_bad s i f e1 w n1 hlt d (bneT hc) hE
      · rw [if_neg (fun h => hlt h.1)] at hE
        exact item_single_end s i f e1 w n1 (by simp; omega) hE
  · exact item_1 s i f e1 er w n1 (bneT her) (by unfold itemR; rw [h1]; simp [her])
end Go.Proofs.YtpdghnlnbhenhaaDoor
