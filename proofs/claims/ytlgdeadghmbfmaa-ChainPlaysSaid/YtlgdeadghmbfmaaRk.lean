/- A ring's Take, First, Last. -/
import Derived.Test.YtlgdeadghmbfmaaRq
namespace Go.Proofs.Ytlgdeadghmbfmaa
open Go.RowKit

/-- A list without the thing at a place. -/
def wo (l : List Int) (i : Nat) : List Int := l.take i ++ l.drop (i + 1)
theorem wo_length {l : List Int} {i : Nat} (hi : i < l.length) : (wo l i).length = l.length - 1 := by simp [wo]; omega
theorem wo_get {l : List Int} {i : Nat} (hi : i < l.length) (j : Nat) : (wo l i)[j]?.getD 0 = if j < i then l[j]?.getD 0 else l[j + 1]?.getD 0 := by
  unfold wo
  by_cases h : j < i
  · rw [List.getElem?_append_left (by simp; omega), if_pos h, List.getElem?_take, if_pos h]
  · rw [List.getElem?_append_right (by simp; omega), if_neg h, List.length_take, Nat.min_eq_left (by omega), List.getElem?_drop, show i + 1 + (j - i) = j + 1 by omega]
/-- What Take gives. -/
def TakeP (b : Nat) (G : Option Nat) (l : List Int) (room i : Nat) (w : World) (e : Ending) (w' : World) : Prop :=
  e = .returned (.tuple #[.int .i64 (l[i]?.getD 0), .bool true]) ∧ Rg b G (wo l i) room w' ∧ But (Own2 b G) w w'
theorem take_end {b g m room first i : Nat} {l : List Int} {V W : Nat → Int} {z : Int} {w w' : World} (hi : i < l.length) (h : RgV b g m room first (l.length - 1) W w') (hb : But (Own2 b (some g)) w w')
    (hV : ∀ j, j < l.length → V j = l[j]?.getD 0) (hz : z = V i) (hW : ∀ j, j < l.length - 1 → W j = if j < i then V j else V (j + 1)) : TakeP b (some g) l room i w (.returned (.tuple #[.int .i64 z, .bool true])) w' := by
  refine ⟨by rw [hz, hV i hi], .inr ⟨g, m, first, W, rfl, by rw [wo_length hi]; exact h, fun j hj => ?_⟩, hb⟩
  rw [wo_length hi] at hj
  rw [hW j hj, wo_get hi]
  by_cases q : j < i
  · rw [if_pos q, if_pos q, hV j (by omega)]
  · rw [if_neg q, if_neg q, hV (j + 1) (by omega)]
set_option maxRecDepth 100000 in
set_option maxHeartbeats 4000000 in
theorem take_front (b g m first : Nat) (V : Nat → Int) (l : List Int) (room i : Nat) (w : World) (h : RgV b g m room first l.length V w) (hV : ∀ j, j < l.length → V j = l[j]?.getD 0) (hi : i < l.length / 2) :
    Calls Try.prog 29 #[.pointer (some ⟨b, 0, none⟩), .int .i64 i] w (TakeP b (some g) l room i w) := by
  have hat := at_yes b g m room first l.length V i w h (by omega)
  have hblt := h.own.lt
  have hgb := h.ne
  have l1 := h.lim; have l2 := h.hm.1; have l3 := h.hf
  have hm := h.hn
  obtain ⟨n, hn⟩ : ∃ n, n = l.length := ⟨_, rfl⟩
  rw [← hn] at hat hi hm
  have HA := Lib.hid hat; have HN := Lib.hid hn; have HV := Lib.hid hV; clear hat h hn hV
  obtain ⟨d, hd⟩ : ∃ d, d = n / 2 := ⟨_, rfl⟩
  have hd1 : (n : Int).tdiv 2 = (d : Int) := by rw [Int.tdiv_eq_ediv_of_nonneg (by omega)]; omega
  have hd2 : (n : Int) / 2 = (d : Int) := by omega
  have hid : i < d := by omega
  clear hd
  have t3 : decide (i < d) = true := by simpa using hid
  have s1 : IntKind.i64.wrap ((n : Int) - 1) = (n : Int) - 1 := IntWalk.i64_in _ (by omega)
  go_enter Try.func29, Try.ntmps29
  go_wp2_with fail
  refine HA.out.mono ?_
  rintro e w1 ⟨rfl, hR1, hG1⟩
  have c2 := hR1.cells.2.2.1
  have HR1 := Lib.hid hR1; have HG1 := Lib.hid hG1; clear hR1 hG1
  go_wp2_with fail
  clear c2
  go_loopw [9] (fun t wr => ∃ (k : Nat) (U : Nat → Int), k ≤ i ∧ t = .int .i64 k ∧ RgV b g m room first n U wr ∧ (∀ j, U j = if k < j ∧ j ≤ i then V (j - 1) else V j) ∧ But (Own2 b (some g)) w wr) (fun t _ => (intOf t).toNat)
  case atStart => exact ⟨i, V, Nat.le_refl _, rfl, HR1.out, fun j => by rw [if_neg (by omega)], HG1.out.nob⟩
  case round =>
    obtain ⟨k, U, hk, rfl, hR, hU, hG⟩ := hrel
    have HU := Lib.hid hU; have HG := Lib.hid hG; clear hU hG
    by_cases hlt : 0 < k
    · have q0 : IntKind.i64.wrap ((k : Int) - 1) = (k : Int) - 1 := IntWalk.i64_in _ (by omega)
      have hs1 := slot_any b g m room first n U k wr hR (by omega)
      have HS1 := Lib.hid hs1; clear hs1 hR
      go_wp2_with fail
      refine HS1.out.mono ?_
      rintro e w4 ⟨rfl, hR5, hG5⟩
      have hs2 := slot_any b g m room first n U (k - 1) w4 hR5 (by omega)
      rw [show ((k - 1 : Nat) : Int) = (k : Int) - 1 by omega] at hs2
      have HS2 := Lib.hid hs2; have HG5 := Lib.hid hG5; clear hs2 hR5 hG5
      go_wp2_with fail
      refine HS2.out.mono ?_
      rintro e w5 ⟨rfl, hR6, hG6⟩
      have hld := hR6.load (i := k - 1) (by omega)
      have hld0 := hR6.load (i := k) (by omega)
      have hfr := hR6.free ((first + k) % m)
      have HG6 := Lib.hid hG6; have HR6 := Lib.hid hR6; clear hG6 hR6
      go_wp2_with fail
      go_roundw
      case rel =>
        refine ⟨k - 1, upd U k (U (k - 1)), by omega, by rw [show ((k - 1 : Nat) : Int) = (k : Int) - 1 by omega], HR6.out.store (by omega) _, fun j => ?_, ((HG.out.trans HG5.out.nob).trans HG6.out.nob).set ⟨g, _, none⟩ _ (.inl (.inr rfl))⟩
        unfold upd
        rw [HU.out j, HU.out (k - 1), if_neg (show ¬ (k < k - 1 ∧ k - 1 ≤ i) by omega)]
        by_cases e1 : j = k
        · subst e1; rw [if_pos rfl, if_pos (by omega)]
        · rw [if_neg e1]
          by_cases e2 : k < j ∧ j ≤ i
          · rw [if_pos e2, if_pos (by omega)]
          · rw [if_neg e2, if_neg (by omega)]
      case measure => simp [intOf]; omega
    · obtain rfl : k = 0 := by omega
      have hs1 : Calls Try.prog 59 #[.pointer (some ⟨b, 0, none⟩), .int .i64 0] wr _ := slot_any b g m room first n U 0 wr hR (by omega)
      have HS1 := Lib.hid hs1; clear hs1 hR
      go_wp2_with fail
      refine HS1.out.mono ?_
      rintro e w4 ⟨rfl, hR5, hG5⟩
      have hld0 := hR5.load (i := 0) (by omega)
      have hfr := hR5.free ((first + 0) % m)
      have HG5 := Lib.hid hG5
      have ht := turn_fwd b g m room first n (upd U 0 0) _ (hR5.store (i := 0) (by omega) 0)
      have HT := Lib.hid ht
      rw [Nat.add_zero] at hld0 hfr HT
      clear hG5 hR5 ht
      go_wp2_with fail
      clear hld0 hfr
      refine HT.out.mono ?_
      rintro e w5 ⟨rfl, hR6, hG6⟩
      have c2 := hR6.cells.2.2.1
      have f2 := hR6.own.free 2
      have hR7 := hR6.setN (k := n - 1) (by omega)
      rw [show ((n - 1 : Nat) : Int) = (n : Int) - 1 by omega] at hR7
      have HG6 := Lib.hid hG6; have HR7 := Lib.hid hR7; clear hG6 hR6 hR7
      go_wp2_with fail
      go_ret2
      have hn' := HN.out
      refine take_end (V := V) (by omega) (by rw [← hn']; exact HR7.out) (((((HG.out.trans HG5.out.nob).set ⟨g, _, none⟩ _ (.inl (.inr rfl)))).step HG6.out fun q _ hq => .inl hq).set ⟨b, 2, none⟩ _ (.inl (.inl rfl))) HV.out rfl ?_
      rw [← hn']
      intro j hj
      unfold fwd upd
      rw [Nat.mod_eq_of_lt (by omega), HU.out (j + 1), if_neg (by omega)]
      by_cases e2 : j < i
      · rw [if_pos e2, if_pos (by omega)]; rfl
      · rw [if_neg e2, if_neg (by omega)]
set_option maxRecDepth 100000 in
set_option maxHeartbeats 4000000 in
theorem take_back (b g m first : Nat) (V : Nat → Int) (l : List Int) (room i : Nat) (w : World) (h : RgV b g m room first l.length V w) (hV : ∀ j, j < l.length → V j = l[j]?.getD 0) (hi : l.length / 2 ≤ i) (hi2 : i < l.length) :
    Calls Try.prog 29 #[.pointer (some ⟨b, 0, none⟩), .int .i64 i] w (TakeP b (some g) l room i w) := by
  have hat := at_yes b g m room first l.length V i w h (by omega)
  have hblt := h.own.lt
  have hgb := h.ne
  have l1 := h.lim; have l2 := h.hm.1; have l3 := h.hf
  have hm := h.hn
  obtain ⟨n, hn⟩ : ∃ n, n = l.length := ⟨_, rfl⟩
  rw [← hn] at hat hi hi2 hm
  have HA := Lib.hid hat; have HN := Lib.hid hn; have HV := Lib.hid hV; clear hat h hn hV
  obtain ⟨d, hd⟩ : ∃ d, d = n / 2 := ⟨_, rfl⟩
  have hd1 : (n : Int).tdiv 2 = (d : Int) := by rw [Int.tdiv_eq_ediv_of_nonneg (by omega)]; omega
  have hd2 : (n : Int) / 2 = (d : Int) := by omega
  have hid : d ≤ i := by omega
  clear hd
  have t3 : decide (i < d) = false := by simp; omega
  have s1 : IntKind.i64.wrap ((n : Int) - 1) = (n : Int) - 1 := IntWalk.i64_in _ (by omega)
  go_enter Try.func29, Try.ntmps29
  go_wp2_with fail
  refine HA.out.mono ?_
  rintro e w1 ⟨rfl, hR1, hG1⟩
  have c2 := hR1.cells.2.2.1
  have HR1 := Lib.hid hR1; have HG1 := Lib.hid hG1; clear hR1 hG1
  go_wp2_with fail
  clear c2
  go_loopw [10] (fun t wr => ∃ (k : Nat) (U : Nat → Int), i ≤ k ∧ k ≤ n - 1 ∧ t = .int .i64 k ∧ RgV b g m room first n U wr ∧ (∀ j, U j = if i ≤ j ∧ j < k then V (j + 1) else V j) ∧ But (Own2 b (some g)) w wr) (fun t _ => n - (intOf t).toNat)
  case atStart => exact ⟨i, V, Nat.le_refl _, by omega, rfl, HR1.out, fun j => by rw [if_neg (by omega)], HG1.out.nob⟩
  case round =>
    obtain ⟨k, U, hk, hkn, rfl, hR, hU, hG⟩ := hrel
    have HU := Lib.hid hU; have HG := Lib.hid hG; clear hU hG
    have c2 := hR.cells.2.2.1
    by_cases hlt : k < n - 1
    · have q0 : IntKind.i64.wrap ((k : Int) + 1) = (k : Int) + 1 := IntWalk.i64_in _ (by omega)
      have q1 : (k : Int) < (n : Int) - 1 := by omega
      have hs1 := slot_any b g m room first n U k wr hR (by omega)
      have HS1 := Lib.hid hs1; clear hs1 hR
      go_wp2_with fail
      refine HS1.out.mono ?_
      rintro e w4 ⟨rfl, hR5, hG5⟩
      have hs2 := slot_any b g m room first n U (k + 1) w4 hR5 (by omega)
      rw [show ((k + 1 : Nat) : Int) = (k : Int) + 1 by omega] at hs2
      have HS2 := Lib.hid hs2; have HG5 := Lib.hid hG5; clear hs2 hR5 hG5 c2
      go_wp2_with fail
      refine HS2.out.mono ?_
      rintro e w5 ⟨rfl, hR6, hG6⟩
      have hld := hR6.load (i := k + 1) (by omega)
      have hld0 := hR6.load (i := k) (by omega)
      have hfr := hR6.free ((first + k) % m)
      have HG6 := Lib.hid hG6; have HR6 := Lib.hid hR6; clear hG6 hR6
      go_wp2_with fail
      go_roundw
      case rel =>
        refine ⟨k + 1, upd U k (U (k + 1)), by omega, by omega, by go_num, HR6.out.store (by omega) _, fun j => ?_, ((HG.out.trans HG5.out.nob).trans HG6.out.nob).set ⟨g, _, none⟩ _ (.inl (.inr rfl))⟩
        unfold upd
        rw [HU.out j, HU.out (k + 1), if_neg (show ¬ (i ≤ k + 1 ∧ k + 1 < k) by omega)]
        by_cases e1 : j = k
        · subst e1; rw [if_pos rfl, if_pos (by omega)]
        · rw [if_neg e1]
          by_cases e2 : i ≤ j ∧ j < k
          · rw [if_pos e2, if_pos (by omega)]
          · rw [if_neg e2, if_neg (by omega)]
      case measure => simp [intOf]; omega
    · have hkd : k = n - 1 := by omega
      have q1 : ¬ (k : Int) < (n : Int) - 1 := by omega
      have hs1 := slot_any b g m room first n U (n - 1) wr hR (by omega)
      rw [show ((n - 1 : Nat) : Int) = (n : Int) - 1 by omega] at hs1
      have HS1 := Lib.hid hs1; have HK := Lib.hid hkd; clear hs1 hR hkd
      go_wp2_with fail
      refine HS1.out.mono ?_
      rintro e w4 ⟨rfl, hR5, hG5⟩
      have hld0 := hR5.load (i := n - 1) (by omega)
      have hfr := hR5.free ((first + (n - 1)) % m)
      have hR6 := hR5.store (i := n - 1) (by omega) 0
      have c22 := hR6.cells.2.2.1
      have f2 := hR6.own.free 2
      have hR7 := hR6.setN (k := n - 1) (by omega)
      rw [show ((n - 1 : Nat) : Int) = (n : Int) - 1 by omega] at hR7
      have HG5 := Lib.hid hG5; have HR7 := Lib.hid hR7; clear hG5 hR5 hR6 hR7 c2
      go_wp2_with fail
      go_ret2
      have hn' := HN.out
      refine take_end (V := V) (by omega) (by rw [← hn']; exact HR7.out) (((HG.out.trans HG5.out.nob).set ⟨g, _, none⟩ _ (.inl (.inr rfl))).set ⟨b, 2, none⟩ _ (.inl (.inl rfl))) HV.out rfl ?_
      rw [← hn']
      intro j hj
      unfold upd
      rw [if_neg (by omega), HU.out j]
      have := HK.out
      by_cases e2 : j < i
      · rw [if_pos e2, if_neg (by omega)]
      · rw [if_neg e2, if_pos (by omega)]
theorem take_ok (b : Nat) (G : Option Nat) (l : List Int) (room i : Nat) (w : World) (h : Rg b G l room w) (hi : i < l.length) :
    Calls Try.prog 29 #[.pointer (some ⟨b, 0, none⟩), .int .i64 i] w (TakeP b G l room i w) := by
  rcases h with ⟨_, rfl, _, _⟩ | ⟨g, m, first, V, rfl, h, hV⟩
  · simp at hi
  · rcases Nat.lt_or_ge i (l.length / 2) with q | q
    · exact take_front b g m first V l room i w h hV q
    · exact take_back b g m first V l room i w h hV q hi
set_option maxHeartbeats 1000000 in
theorem take_bad (b : Nat) (n : Nat) (i : Int) (w : World) (h : w.cell? ⟨b, 2, none⟩ = some (.int .i64 n)) (hi : i < 0 ∨ (n : Int) ≤ i) :
    Calls Try.prog 29 #[.pointer (some ⟨b, 0, none⟩), .int .i64 i] w fun e w' => e = .returned (.tuple #[.int .i64 0, .bool false]) ∧ w = w' := by
  have HA := Lib.hid (at_no b n i w h hi); clear h hi
  go_enter Try.func29, Try.ntmps29
  go_wp2_with (go_at_call 28; (with_reducible refine HA.out.mono ?_); rintro e wq ⟨rfl, rfl⟩)
  go_ret2
  exact ⟨rfl, rfl⟩
theorem take_nil (i : Int) (w : World) : Calls Try.prog 29 #[.pointer none, .int .i64 i] w fun e w' => e = .returned (.tuple #[.int .i64 0, .bool false]) ∧ w = w' := by
  have HA := Lib.hid (at_nil i w)
  go_enter Try.func29, Try.ntmps29
  go_wp2_with (go_at_call 28; (with_reducible refine HA.out.mono ?_); rintro e wq ⟨rfl, rfl⟩)
  go_ret2
  exact ⟨rfl, rfl⟩
theorem first_ok (b : Nat) (G : Option Nat) (x : Int) (l : List Int) (room : Nat) (w : World) (h : Rg b G (x :: l) room w) :
    Calls Try.prog 24 #[.pointer (some ⟨b, 0, none⟩)] w fun e w' => e = .returned (.tuple #[.int .i64 x, .bool true]) ∧ Rg b G l room w' ∧ But (Own2 b G) w w' := by
  have hp := take_ok b G (x :: l) room 0 w h (by simp)
  have HP := Lib.hid hp; clear hp h
  go_enter Try.func24, Try.ntmps24
  go_wp2_with (go_at_call 29; (refine HP.out.mono ?_); rintro e w1 ⟨rfl, hq1, hq2⟩; have H1 := Lib.hid hq1; have H2 := Lib.hid hq2; clear hq1 hq2)
  go_ret2
  exact ⟨rfl, H1.out, H2.out⟩
theorem first_none (b : Nat) (w : World) (h : w.cell? ⟨b, 2, none⟩ = some (.int .i64 (0 : Nat))) :
    Calls Try.prog 24 #[.pointer (some ⟨b, 0, none⟩)] w fun e w' => e = .returned (.tuple #[.int .i64 0, .bool false]) ∧ w = w' := by
  have HP := Lib.hid (take_bad b 0 0 w h (.inr (by simp))); clear h
  go_enter Try.func24, Try.ntmps24
  go_wp2_with (go_at_call 29; (with_reducible refine HP.out.mono ?_); rintro e wq ⟨rfl, rfl⟩)
  go_ret2
  exact ⟨rfl, rfl⟩
theorem first_nil (w : World) : Calls Try.prog 24 #[.pointer none] w fun e w' => e = .returned (.tuple #[.int .i64 0, .bool false]) ∧ w = w' := by
  have HP := Lib.hid (take_nil 0 w)
  go_enter Try.func24, Try.ntmps24
  go_wp2_with (go_at_call 29; (with_reducible refine HP.out.mono ?_); rintro e wq ⟨rfl, rfl⟩)
  go_ret2
  exact ⟨rfl, rfl⟩
theorem last_ok (b : Nat) (G : Option Nat) (x : Int) (l : List Int) (room : Nat) (w : World) (h : Rg b G (l ++ [x]) room w) :
    Calls Try.prog 25 #[.pointer (some ⟨b, 0, none⟩)] w fun e w' => e = .returned (.tuple #[.int .i64 x, .bool true]) ∧ Rg b G l room w' ∧ But (Own2 b G) w w' := by
  have hlen := len_any b (l.length + 1) w (by have := h.head.1; simpa using this)
  have hr4 := h.len_le; have hr5 := h.room_le
  simp only [List.length_append, List.length_cons, List.length_nil] at hr4
  have hp := take_ok b G (l ++ [x]) room l.length w h (by simp)
  have e1 : (l ++ [x])[l.length]?.getD 0 = x := by simp
  have e2 : wo (l ++ [x]) l.length = l := by simp [wo]
  unfold TakeP at hp
  rw [e1, e2] at hp
  rw [show ((l.length + 1 : Nat) : Int) = (l.length : Int) + 1 by omega] at hlen
  have s0 : IntKind.i64.wrap ((l.length : Int) + 1 - 1) = (l.length : Int) := by rw [IntWalk.i64_in _ (by omega)]; omega
  have s1 : (l.length : Int) + 1 - 1 = (l.length : Int) := by omega
  have HL := Lib.hid hlen; have HP := Lib.hid hp; clear hlen hp h e1 e2
  go_enter Try.func25, Try.ntmps25
  go_wp2_with (first
    | (go_at_call 26; (with_reducible refine HL.out.mono ?_); rintro e wq ⟨rfl, rfl⟩)
    | (go_at_call 29; (refine HP.out.mono ?_); rintro e w1 ⟨rfl, hq1, hq2⟩; have H1 := Lib.hid hq1; have H2 := Lib.hid hq2; clear hq1 hq2))
  go_ret2
  exact ⟨rfl, H1.out, H2.out⟩
theorem last_none (b : Nat) (w : World) (h : w.cell? ⟨b, 2, none⟩ = some (.int .i64 (0 : Nat))) :
    Calls Try.prog 25 #[.pointer (some ⟨b, 0, none⟩)] w fun e w' => e = .returned (.tuple #[.int .i64 0, .bool false]) ∧ w = w' := by
  have HL := Lib.hid (show Calls Try.prog 26 #[.pointer (some ⟨b, 0, none⟩)] w fun e w' => e = .returned (.int .i64 0) ∧ w = w' from len_any b 0 w h)
  have HP := Lib.hid (take_bad b 0 (-1) w h (.inl (by omega))); clear h
  go_enter Try.func25, Try.ntmps25
  go_wp2_with (first
    | (go_at_call 26; (with_reducible refine HL.out.mono ?_); rintro e wq ⟨rfl, rfl⟩)
    | (go_at_call 29; (with_reducible refine HP.out.mono ?_); rintro e wq ⟨rfl, rfl⟩))
  go_ret2
  exact ⟨rfl, rfl⟩
theorem last_nil (w : World) : Calls Try.prog 25 #[.pointer none] w fun e w' => e = .returned (.tuple #[.int .i64 0, .bool false]) ∧ w = w' := by
  have HL := Lib.hid (len_nil w)
  have HP := Lib.hid (take_nil (-1) w)
  go_enter Try.func25, Try.ntmps25
  go_wp2_with (first
    | (go_at_call 26; (with_reducible refine HL.out.mono ?_); rintro e wq ⟨rfl, rfl⟩)
    | (go_at_call 29; (with_reducible refine HP.out.mono ?_); rintro e wq ⟨rfl, rfl⟩))
  go_ret2
  exact ⟨rfl, rfl⟩
end Go.Proofs.Ytlgdeadghmbfmaa
