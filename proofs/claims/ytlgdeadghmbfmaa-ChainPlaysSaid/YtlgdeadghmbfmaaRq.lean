/- A ring's Put behind the middle, Back, Front. -/
import Derived.Test.YtlgdeadghmbfmaaRp
namespace Go.Proofs.Ytlgdeadghmbfmaa
open Go.RowKit

set_option maxRecDepth 100000 in
set_option maxHeartbeats 4000000 in
theorem put_back (b : Nat) (G : Option Nat) (l : List Int) (room i : Nat) (x : Int) (w : World) (h : Rg b G l room w) (hr : l.length < room) (hi : (l.length + 1) / 2 ≤ i) (hi2 : i ≤ l.length) :
    Calls Try.prog 23 #[.pointer (some ⟨b, 0, none⟩), .int .i64 i, .int .i64 x] w (PutP b G (ins l i x) room w) := by
  have hlen := len_any b l.length w h.head.1
  have hrm := room_any b room w h.head.2
  have hwd := widen_any b G l room w h hr
  have hr4 := h.room_le
  have hblt := h.lt
  obtain ⟨n, hn⟩ : ∃ n, n = l.length := ⟨_, rfl⟩
  rw [← hn] at hlen hr hi hi2
  have HL := Lib.hid hlen; have HR := Lib.hid hrm; have HW := Lib.hid hwd; have HN := Lib.hid hn; clear hlen hrm hwd h hn
  obtain ⟨d, hd⟩ : ∃ d, d = (n + 1) / 2 := ⟨_, rfl⟩
  have hd1 : ((n : Int) + 1).tdiv 2 = (d : Int) := by rw [Int.tdiv_eq_ediv_of_nonneg (by omega)]; omega
  have hd2 : ((n : Int) + 1) / 2 = (d : Int) := by omega
  have hid : d ≤ i := by omega
  clear hd
  have t0 : decide ((i : Int) < 0) = false := by simp
  have t1 : decide (n < i) = false := by simp; omega
  have t2 : ((n : Int) == (room : Int)) = false := by simp; omega
  have t3 : decide (i < d) = false := by simp; omega
  have s2 : IntKind.i64.wrap ((n : Int) + 1 - 1) = (n : Int) := by rw [IntWalk.i64_in _ (by omega)]; omega
  have s3 : (n : Int) + 1 - 1 = (n : Int) := by omega
  have s1 : IntKind.i64.wrap ((n : Int) + 1) = (n : Int) + 1 := IntWalk.i64_in _ (by omega)
  go_enter Try.func23, Try.ntmps23
  go_wp2_with (first
    | (go_at_call 26; (with_reducible refine HL.out.mono ?_); rintro e wq ⟨rfl, rfl⟩)
    | (go_at_call 16; (with_reducible refine HR.out.mono ?_); rintro e wq ⟨rfl, rfl⟩)
    | (go_at_call 57; (with_reducible refine HW.out.mono ?_); rintro e w1 ⟨g, m, first, V, rfl, hR1, hnm, hV, hg, hG1⟩
       rw [← HN.out] at hR1 hnm hV
       obtain ⟨c0, c1, c2, c3⟩ := hR1.cells
       have f2 := hR1.own.free 2
       have HR1 := Lib.hid hR1; have HV := Lib.hid hV; have HG1 := Lib.hid hG1; clear hR1 hV hG1
       have hR2 := HR1.out.setN (k := n + 1) (by omega)
       rw [show ((n + 1 : Nat) : Int) = (n : Int) + 1 by omega] at hR2
       have c22 := hR2.cells.2.2.1
       rw [show ((n + 1 : Nat) : Int) = (n : Int) + 1 by omega] at c22
       have HR2 := Lib.hid hR2; clear hR2
       have hG2 := Lib.hid (((HG1.out.mono (Y := Own2 b G) fun q _ hq => .inl hq)).set ⟨b, 2, none⟩ (.int .i64 ((n : Int) + 1)) (.inl (.inl rfl)))))
  clear c0 c1 c2 c3 c22 f2
  have hXg : Hid (Own2 b G g ∨ w.heap.size ≤ g) := hg
  have hm : n + 1 ≤ m := hnm
  go_loopw [8] (fun t wr => ∃ (k : Nat) (U : Nat → Int), i ≤ k ∧ k ≤ n ∧ t = .int .i64 k ∧ RgV b g m room first (n + 1) U wr ∧ (∀ j, U j = if k < j ∧ j ≤ n then V (j - 1) else V j) ∧ But (Own2 b G) w wr) (fun t _ => (intOf t).toNat - i)
  case atStart => exact ⟨n, V, hi2, Nat.le_refl _, rfl, HR2.out, fun j => by rw [if_neg (by omega)], hG2.out⟩
  case round =>
    obtain ⟨k, U, hk, hkn, rfl, hR, hU, hG⟩ := hrel
    have HU := Lib.hid hU; have HG := Lib.hid hG; clear hU hG
    by_cases hlt : i < k
    · have q0 : IntKind.i64.wrap ((k : Int) - 1) = (k : Int) - 1 := IntWalk.i64_in _ (by omega)
      have hs1 := slot_any b g m room first (n + 1) U k wr hR (by omega)
      have HS1 := Lib.hid hs1; clear hs1 hR
      go_wp2_with fail
      refine HS1.out.mono ?_
      rintro e w4 ⟨rfl, hR5, hG5⟩
      have hs2 := slot_any b g m room first (n + 1) U (k - 1) w4 hR5 (by omega)
      rw [show ((k - 1 : Nat) : Int) = (k : Int) - 1 by omega] at hs2
      have HS2 := Lib.hid hs2; have HG5 := Lib.hid hG5; clear hs2 hR5 hG5
      go_wp2_with fail
      refine HS2.out.mono ?_
      rintro e w5 ⟨rfl, hR6, hG6⟩
      have hld := hR6.load (i := k - 1) (by omega)
      have hld0 := hR6.load (i := k) (by omega)
      have hfr := hR6.free ((first + k) % m)
      have HG6 := Lib.hid hG6; have HR6 := Lib.hid hR6; clear hG6 hR6
      go_wp2_with fail
      go_roundw
      case rel =>
        refine ⟨k - 1, upd U k (U (k - 1)), by omega, by omega, by rw [show ((k - 1 : Nat) : Int) = (k : Int) - 1 by omega], HR6.out.store (by omega) _, fun j => ?_, ((HG.out.trans HG5.out.nob).trans HG6.out.nob).set ⟨g, _, none⟩ _ hXg.out⟩
        unfold upd
        rw [HU.out j, HU.out (k - 1), if_neg (show ¬ (k < k - 1 ∧ k - 1 ≤ n) by omega)]
        by_cases e1 : j = k
        · subst e1; rw [if_pos rfl, if_pos (by omega)]
        · rw [if_neg e1]
          by_cases e2 : k < j ∧ j ≤ n
          · rw [if_pos e2, if_pos (by omega)]
          · rw [if_neg e2, if_neg (by omega)]
      case measure => simp [intOf]; omega
    · have hki : k = i := by omega
      have t : decide (i < k) = false := by simp; omega
      have HK := Lib.hid hki; clear hki
      have hs1 := slot_any b g m room first (n + 1) U i wr hR (by omega)
      have HS1 := Lib.hid hs1; clear hs1 hR
      go_wp2_with fail
      refine HS1.out.mono ?_
      rintro e w4 ⟨rfl, hR5, hG5⟩
      have hld0 := hR5.load (i := i) (by omega)
      have hfr := hR5.free ((first + i) % m)
      have HG5 := Lib.hid hG5; have HR5 := Lib.hid hR5; clear hG5 hR5
      go_wp2_with fail
      go_ret
      have hn' := HN.out
      refine put_end (V := V) (W := upd U i x) (by omega) (by rw [← hn']; exact HR5.out.store (by omega) x) hXg.out ((HG.out.trans HG5.out.nob).set ⟨g, _, none⟩ _ hXg.out) (by rw [← hn']; exact HV.out) ?_
      rw [← hn']
      intro j hj
      unfold upd
      rw [HU.out j, HK.out]
      by_cases e1 : j = i
      · subst e1; rw [if_pos rfl, if_neg (by omega), if_pos rfl]
      · rw [if_neg e1, if_neg e1]
        by_cases e2 : j < i
        · rw [if_pos e2, if_neg (by omega)]
        · rw [if_neg e2, if_pos (by omega)]
set_option maxRecDepth 100000 in
set_option maxHeartbeats 1000000 in
theorem put_bad (b : Nat) (G : Option Nat) (l : List Int) (room : Nat) (i x : Int) (w : World) (h : Rg b G l room w) (hi : i < 0 ∨ (l.length : Int) < i ∨ l.length = room) :
    Calls Try.prog 23 #[.pointer (some ⟨b, 0, none⟩), .int .i64 i, .int .i64 x] w fun e w' => e = .returned (.bool false) ∧ w = w' := by
  have hlen := len_any b l.length w h.head.1
  have hrm := room_any b room w h.head.2
  obtain ⟨n, hn⟩ : ∃ n, n = l.length := ⟨_, rfl⟩
  rw [← hn] at hlen hi
  have HL := Lib.hid hlen; have HR := Lib.hid hrm; clear hlen hrm h hn
  by_cases h0 : i < 0
  · clear hi
    go_enter Try.func23, Try.ntmps23
    go_wp2
    go_ret
    exact ⟨rfl, rfl⟩
  · by_cases h1 : (n : Int) < i
    · clear hi
      go_enter Try.func23, Try.ntmps23
      go_wp2_with (first
        | (go_at_call 26; (with_reducible refine HL.out.mono ?_); rintro e wq ⟨rfl, rfl⟩))
      go_ret
      exact ⟨rfl, rfl⟩
    · have hnr : n = room := by omega
      subst hnr
      clear hi
      go_enter Try.func23, Try.ntmps23
      go_wp2_with (first
        | (go_at_call 26; (with_reducible refine HL.out.mono ?_); rintro e wq ⟨rfl, rfl⟩)
        | (go_at_call 16; (with_reducible refine HR.out.mono ?_); rintro e wq ⟨rfl, rfl⟩))
      go_ret
      exact ⟨rfl, rfl⟩
theorem put_nil (i x : Int) (w : World) : Calls Try.prog 23 #[.pointer none, .int .i64 i, .int .i64 x] w fun e w' => e = .returned (.bool false) ∧ w = w' := by
  have hlen := len_nil w
  have hrm := room_nil w
  have HL := Lib.hid hlen; have HR := Lib.hid hrm; clear hlen hrm
  by_cases h0 : i < 0
  · go_enter Try.func23, Try.ntmps23
    go_wp2
    go_ret
    exact ⟨rfl, rfl⟩
  · by_cases h1 : 0 < i
    · go_enter Try.func23, Try.ntmps23
      go_wp2_with (first
        | (go_at_call 26; (with_reducible refine HL.out.mono ?_); rintro e wq ⟨rfl, rfl⟩))
      go_ret
      exact ⟨rfl, rfl⟩
    · go_enter Try.func23, Try.ntmps23
      go_wp2_with (first
        | (go_at_call 26; (with_reducible refine HL.out.mono ?_); rintro e wq ⟨rfl, rfl⟩)
        | (go_at_call 16; (with_reducible refine HR.out.mono ?_); rintro e wq ⟨rfl, rfl⟩))
      go_ret
      exact ⟨rfl, rfl⟩
theorem put_ok (b : Nat) (G : Option Nat) (l : List Int) (room i : Nat) (x : Int) (w : World) (h : Rg b G l room w) (hr : l.length < room) (hi : i ≤ l.length) :
    Calls Try.prog 23 #[.pointer (some ⟨b, 0, none⟩), .int .i64 i, .int .i64 x] w (PutP b G (ins l i x) room w) := by
  rcases Nat.lt_or_ge i ((l.length + 1) / 2) with q | q
  · exact put_front b G l room i x w h hr q
  · exact put_back b G l room i x w h hr q hi
theorem back_ok (b : Nat) (G : Option Nat) (l : List Int) (room : Nat) (x : Int) (w : World) (h : Rg b G l room w) (hr : l.length < room) :
    Calls Try.prog 21 #[.pointer (some ⟨b, 0, none⟩), .int .i64 x] w (PutP b G (l ++ [x]) room w) := by
  have hlen := len_any b l.length w h.head.1
  have hp := put_ok b G l room l.length x w h hr (Nat.le_refl _)
  rw [show ins l l.length x = l ++ [x] by simp [ins]] at hp
  have HL := Lib.hid hlen; have HP := Lib.hid hp; clear hlen hp h
  go_enter Try.func21, Try.ntmps21
  go_wp2_with (first
    | (go_at_call 26; (with_reducible refine HL.out.mono ?_); rintro e wq ⟨rfl, rfl⟩)
    | (go_at_call 23; (with_reducible refine HP.out.mono ?_); rintro e w1 ⟨rfl, hq⟩; have HQ := Lib.hid hq; clear hq))
  go_ret
  exact ⟨rfl, HQ.out⟩
theorem front_ok (b : Nat) (G : Option Nat) (l : List Int) (room : Nat) (x : Int) (w : World) (h : Rg b G l room w) (hr : l.length < room) :
    Calls Try.prog 22 #[.pointer (some ⟨b, 0, none⟩), .int .i64 x] w (PutP b G (x :: l) room w) := by
  have hp := put_ok b G l room 0 x w h hr (Nat.zero_le _)
  rw [show ins l 0 x = x :: l by simp [ins]] at hp
  have HP := Lib.hid hp; clear hp h
  go_enter Try.func22, Try.ntmps22
  go_wp2_with (first
    | (go_at_call 23; (refine HP.out.mono ?_); rintro e w1 ⟨rfl, hq⟩; have HQ := Lib.hid hq; clear hq))
  go_ret
  exact ⟨rfl, HQ.out⟩
theorem back_bad (b : Nat) (G : Option Nat) (l : List Int) (x : Int) (w : World) (h : Rg b G l l.length w) :
    Calls Try.prog 21 #[.pointer (some ⟨b, 0, none⟩), .int .i64 x] w fun e w' => e = .returned (.bool false) ∧ w = w' := by
  have hlen := len_any b l.length w h.head.1
  have hp := put_bad b G l l.length l.length x w h (.inr (.inr rfl))
  have HL := Lib.hid hlen; have HP := Lib.hid hp; clear hlen hp h
  go_enter Try.func21, Try.ntmps21
  go_wp2_with (first
    | (go_at_call 26; (with_reducible refine HL.out.mono ?_); rintro e wq ⟨rfl, rfl⟩)
    | (go_at_call 23; (with_reducible refine HP.out.mono ?_); rintro e wq ⟨rfl, rfl⟩))
  go_ret
  exact ⟨rfl, rfl⟩
theorem front_bad (b : Nat) (G : Option Nat) (l : List Int) (x : Int) (w : World) (h : Rg b G l l.length w) :
    Calls Try.prog 22 #[.pointer (some ⟨b, 0, none⟩), .int .i64 x] w fun e w' => e = .returned (.bool false) ∧ w = w' := by
  have hp := put_bad b G l l.length 0 x w h (.inr (.inr rfl))
  have HP := Lib.hid hp; clear hp h
  go_enter Try.func22, Try.ntmps22
  go_wp2_with (first
    | (go_at_call 23; (with_reducible refine HP.out.mono ?_); rintro e wq ⟨rfl, rfl⟩))
  go_ret
  exact ⟨rfl, rfl⟩
theorem back_nil (x : Int) (w : World) : Calls Try.prog 21 #[.pointer none, .int .i64 x] w fun e w' => e = .returned (.bool false) ∧ w = w' := by
  have HL := Lib.hid (len_nil w); have HP := Lib.hid (put_nil 0 x w)
  go_enter Try.func21, Try.ntmps21
  go_wp2_with (first
    | (go_at_call 26; (with_reducible refine HL.out.mono ?_); rintro e wq ⟨rfl, rfl⟩)
    | (go_at_call 23; (with_reducible refine HP.out.mono ?_); rintro e wq ⟨rfl, rfl⟩))
  go_ret
  exact ⟨rfl, rfl⟩
theorem front_nil (x : Int) (w : World) : Calls Try.prog 22 #[.pointer none, .int .i64 x] w fun e w' => e = .returned (.bool false) ∧ w = w' := by
  have HP := Lib.hid (put_nil 0 x w)
  go_enter Try.func22, Try.ntmps22
  go_wp2_with (first
    | (go_at_call 23; (with_reducible refine HP.out.mono ?_); rintro e wq ⟨rfl, rfl⟩))
  go_ret
  exact ⟨rfl, rfl⟩
end Go.Proofs.Ytlgdeadghmbfmaa
