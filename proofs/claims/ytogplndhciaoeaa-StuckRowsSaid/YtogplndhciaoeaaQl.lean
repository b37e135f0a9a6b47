/- layer 27 (stuck): the document's Rounds and Stuck. -/
import Derived.Test.YtogplndhciaoeaaQj
import Derived.Test.YtogplndhciaoeaaQk
namespace Go.Proofs.Ytogplndhciaoeaa
open Go.RowKit Go.Maps
set_option maxRecDepth 100000

theorem ownN_rowQ {w : World} {B : Nat} {D : Value} {L : List Int} (h : OwnN B w D L) : ∃ A cap, D = .slice A L.length cap ∧ L.length ≤ cap ∧ RowN w.heap.size w A L := by
  have h' := h
  rcases h.2 with ⟨rfl, hn⟩ | ⟨g, cap, cur, rfl, hg, hh, hnc, _⟩
  · have : L = [] := List.eq_nil_of_length_eq_zero hn
    subst this
    exact ⟨none, 0, rfl, Nat.le_refl _, fun i hi => by simp at hi⟩
  · refine ⟨some ⟨g, 0, none⟩, cap, rfl, hnc, fun i hi => ⟨g, 0, rfl, (h'.lt g rfl).2, ?_⟩⟩
    have := h'.cells (g := g) rfl i (.int .i64 L[i]) (by rw [List.getElem?_map, List.getElem?_eq_getElem hi]; rfl)
    rwa [Addr.add_mid] at this
theorem RowN.monoQ {B B' : Nat} {w : World} {A : Option Addr} {l : List Int} (h : RowN B w A l) (hB : B ≤ B') : RowN B' w A l := fun i d => by
  obtain ⟨b, off, e, hlt, hr⟩ := h i d
  exact ⟨b, off, e, by omega, hr⟩
theorem isRounds_iff (l : List (Int × Int)) (x : Int) : isRounds (fateP l x) = true ↔ Rnd l x := by
  unfold isRounds
  rw [beq_iff_eq]
  constructor
  · intro h
    by_cases he : Endless l x
    · by_cases hr : Rnd l x
      · exact hr
      · rw [fate_comes he hr] at h; omega
    · rw [fate_end he] at h; omega
  · exact fate_rnd
theorem isStuck_iff (l : List (Int × Int)) (x : Int) : isStuck (fateP l x) = true ↔ Endless l x := by
  unfold isStuck
  rw [Bool.or_eq_true, beq_iff_eq, beq_iff_eq]
  constructor
  · intro h
    by_cases he : Endless l x
    · exact he
    · rw [fate_end he] at h; omega
  · intro he
    by_cases hr : Rnd l x
    · exact .inl (fate_rnd hr)
    · exact .inr (fate_comes he hr)
open Classical in
theorem comes_isRounds (l : List (Int × Int)) (x : Int) : decide (Comes l x x) = isRounds (fateP l x) := by
  rw [Bool.eq_iff_iff, decide_eq_true_eq, isRounds_iff, rnd_iff]
theorem mem_rounds (l : List (Int × Int)) (r : Int) : r ∈ risingL (thoseF isRounds l l) ↔ r ∈ l.map (·.1) ∧ Rnd l r := by
  rw [(rising_perm _).mem_iff]
  unfold thoseF
  rw [List.mem_map]
  constructor
  · rintro ⟨y, hy, rfl⟩
    obtain ⟨h1, h2⟩ := List.mem_filter.1 hy
    exact ⟨List.mem_map.2 ⟨y, h1, rfl⟩, (isRounds_iff l y.1).1 h2⟩
  · rintro ⟨h1, h2⟩
    obtain ⟨y, hy, rfl⟩ := List.mem_map.1 h1
    exact ⟨y, List.mem_filter.2 ⟨hy, (isRounds_iff l y.1).2 h2⟩, rfl⟩
open Classical in
theorem comes_isStuck (l : List (Int × Int)) (x : Int) : (decide (Comes l x x) || (risingL (thoseF isRounds l l)).any fun r => decide (Comes l x r)) = isStuck (fateP l x) := by
  rw [Bool.eq_iff_iff, isStuck_iff, endless_iff, Bool.or_eq_true, decide_eq_true_eq, List.any_eq_true]
  constructor
  · rintro (h | ⟨r, hr, hc⟩)
    · exact .inl h
    · obtain ⟨h1, h2⟩ := (mem_rounds l r).1 hr
      exact .inr ⟨r, h1, rnd_iff.1 h2, by simpa using hc⟩
  · rintro (h | ⟨r, h1, h2, h3⟩)
    · exact .inl h
    · exact .inr ⟨r, (mem_rounds l r).2 ⟨h1, rnd_iff.2 h2⟩, by simpa using h3⟩
set_option maxHeartbeats 8000000 in
theorem refrounds_any (A1 A2 : Option Addr) (l : List (Int × Int)) (n c1 c2 : Nat) (hn : l.length = n) (hl : n ≤ 900) (w : World) (h1 : RowN w.heap.size w A1 (l.map (·.1))) (h2 : RowN w.heap.size w A2 (l.map (·.2))) :
    Calls Try.prog 26 #[.slice A1 n c1, .slice A2 n c2] w fun e w' => ∃ v, e = .returned v ∧ OwnN w.heap.size w' v (risingL (thoseF isRounds l l)) ∧ Below w.heap.size w w' := by
  have HN := Lib.hid hn; have H1 := Lib.hid h1; have H2 := Lib.hid h2
  clear hn h1 h2
  go_enter Try.func26, Try.ntmps26
  go_wp2_with fail
  go_loopw [5, 10] (fun rv iv wr => ∃ i : Nat, iv = .int .i64 i ∧ i ≤ n ∧ OwnN w.heap.size wr rv (thoseF isRounds l (l.take i)) ∧ Below w.heap.size w wr) (fun _ iv _ => n - (intOf iv).toNat)
  case atStart => exact ⟨0, rfl, Nat.zero_le _, World.ownsRow_nil _ _ _ _, Below.refl _ _⟩
  case round =>
    obtain ⟨i, rfl, hi, ho, hb⟩ := hrel
    have HO := Lib.hid ho; have HB := Lib.hid hb
    clear ho hb
    have HLT : Hid ((thoseF isRounds l (l.take i)).length ≤ n) := by
      show _ ≤ _
      have h1 := thoseF_len isRounds l (l.take i)
      rw [List.length_take, HN.out] at h1; omega
    by_cases hlt : i < n
    · have hil : i < l.length := by rw [HN.out]; exact hlt
      obtain ⟨b, o, rfl, -, hc⟩ := (H1.out.below HB.out) i (by simpa using hil)
      rw [List.getElem_map] at hc
      have HTK : Hid (thoseF isRounds l (l.take (i + 1)) = thoseF isRounds l (l.take i) ++ if isRounds (fateP l (l[i]).1) then [(l[i]).1] else []) := by
        show _ = _
        rw [List.take_succ_eq_append_getElem hil, thoseF_snoc]
      generalize (l[i]).1 = t at *
      have HC := Lib.hid (comes_any _ A2 l n c1 c2 HN.out (by omega) w.heap.size t t wr (H1.out.below HB.out) (H2.out.below HB.out))
      rw [comes_isRounds] at HC
      generalize thoseF isRounds l (l.take i) = S at *
      generalize isRounds (fateP l t) = bf at *
      have i0 : (0 : Int) ≤ (i : Int) := by omega
      have i1 : (i : Int) < (n : Int) := by omega
      cases bf with
      | true =>
        go_wp2_with (first
          | (go_at_call 40; (with_reducible refine HC.out.mono ?_); rintro e w3 ⟨rfl, rfl⟩)
          | (with_reducible (show wpList _ _ _ _ _ _); refine app_n rfl (.tmp 19) (.tmp 21) rfl w.heap.size u5 S rfl (HO.out.alloc _) wr.heap.size 1 t rfl ((Blk.new wr _ _).cell 0) (Nat.le_trans HLT.out (by omega)) (by have := HB.out.size; simp; omega) ?_; intro v5 w5 ho5 hg5; have HO5 := Lib.hid ho5; have HB5 := Lib.hid ((HB.out.alloc HB.out.size _).grown hg5 (by have := HB.out.size; simp; omega) (fun r e => (HO.out.lt r e).1)); clear ho5 hg5))
        go_roundw
        case rel => exact ⟨i + 1, by first | rfl | go_num, by omega, by rw [HTK.out]; exact HO5.out, HB5.out⟩
        case measure => simp [intOf]; omega
      | false =>
        go_wp2_with (go_at_call 40; (with_reducible refine HC.out.mono ?_); rintro e w3 ⟨rfl, rfl⟩)
        go_roundw
        case rel => exact ⟨i + 1, by first | rfl | go_num, by omega, by rw [HTK.out]; simpa using HO.out, HB.out⟩
        case measure => simp [intOf]; omega
    · obtain rfl : i = n := by omega
      have HT : Hid (l.take i = l) := by show _ = _; rw [← HN.out, List.take_length]
      rw [HT.out] at HO HLT
      obtain ⟨As, cps, rfl, -, hr⟩ := ownN_rowQ HO.out
      have HRI := Lib.hid (refrising_any As _ _ cps rfl (by have := HLT.out; omega) wr hr)
      clear hr
      go_wp2_with (go_at_call 41; (with_reducible refine HRI.out.mono ?_); rintro e w4 ⟨v4, rfl, ho4, hb4⟩; have HO4 := Lib.hid ho4; have HB4 := Lib.hid hb4; clear ho4 hb4)
      go_ret
      exact ⟨_, rfl, ownN_base HO4.out HB.out.size, HB.out.trans (HB4.out.mono HB.out.size)⟩
open Classical in
set_option maxHeartbeats 16000000 in
theorem refstuck_any (A1 A2 : Option Addr) (l : List (Int × Int)) (n c1 c2 : Nat) (hn : l.length = n) (hl : n ≤ 900) (w : World) (h1 : RowN w.heap.size w A1 (l.map (·.1))) (h2 : RowN w.heap.size w A2 (l.map (·.2))) :
    Calls Try.prog 28 #[.slice A1 n c1, .slice A2 n c2] w fun e w' => ∃ v, e = .returned v ∧ OwnN w.heap.size w' v (risingL (thoseF isStuck l l)) ∧ Below w.heap.size w w' := by
  have HN := Lib.hid hn; have H1 := Lib.hid h1; have H2 := Lib.hid h2
  have HRD : Hid (∀ W, Below w.heap.size w W → Calls Try.prog 26 #[.slice A1 n c1, .slice A2 n c2] W fun e w' => ∃ v, e = .returned v ∧ OwnN W.heap.size w' v (risingL (thoseF isRounds l l)) ∧ Below W.heap.size W w') := fun W h =>
    refrounds_any A1 A2 l n c1 c2 hn hl W ((h1.below h).monoQ h.size) ((h2.below h).monoQ h.size)
  have HRL : Hid ((risingL (thoseF isRounds l l)).length ≤ n) := by
    show _ ≤ _
    rw [(rising_perm _).length_eq]
    have := thoseF_len isRounds l l
    omega
  clear hn h1 h2
  go_enter Try.func28, Try.ntmps28
  go_wp2_with fail
  go_loopw [5, 13] (fun rv iv wr => ∃ i : Nat, iv = .int .i64 i ∧ i ≤ n ∧ OwnN w.heap.size wr rv (thoseF isStuck l (l.take i)) ∧ Below w.heap.size w wr) (fun _ iv _ => n - (intOf iv).toNat)
  case atStart => exact ⟨0, rfl, Nat.zero_le _, World.ownsRow_nil _ _ _ _, Below.refl _ _⟩
  case round =>
    obtain ⟨i, rfl, hi, ho, hb⟩ := hrel
    have HO := Lib.hid ho; have HB := Lib.hid hb
    clear ho hb
    have HLT : Hid ((thoseF isStuck l (l.take i)).length ≤ n) := by
      show _ ≤ _
      have h1 := thoseF_len isStuck l (l.take i)
      rw [List.length_take, HN.out] at h1; omega
    obtain ⟨w0, hw0⟩ : ∃ x, x = wr := ⟨_, rfl⟩
    subst hw0
    by_cases hlt : i < n
    · have hil : i < l.length := by rw [HN.out]; exact hlt
      obtain ⟨b, o, rfl, -, hc⟩ := (H1.out.below HB.out) i (by simpa using hil)
      rw [List.getElem_map] at hc
      have HTK : Hid (thoseF isStuck l (l.take (i + 1)) = thoseF isStuck l (l.take i) ++ if isStuck (fateP l (l[i]).1) then [(l[i]).1] else []) := by
        show _ = _
        rw [List.take_succ_eq_append_getElem hil, thoseF_snoc]
      generalize (l[i]).1 = t at *
      have HCM : Hid (∀ W r, Below w.heap.size w W → Calls Try.prog 40 #[.slice (some ⟨b, o, none⟩) n c1, .slice A2 n c2, .int .i64 t, .int .i64 r] W fun e w' => e = .returned (.bool (decide (Comes l t r))) ∧ W = w') := fun W r h =>
        comes_any _ A2 l n c1 c2 HN.out (by omega) w.heap.size t r W (H1.out.below h) (H2.out.below h)
      have HCS := Lib.hid (comes_isStuck l t)
      have HC0 := Lib.hid (HCM.out w0 t HB.out)
      generalize thoseF isStuck l (l.take i) = S at *
      generalize decide (Comes l t t) = d0 at *
      generalize risingL (thoseF isRounds l l) = R at *
      generalize isStuck (fateP l t) = bf at *
      have i0 : (0 : Int) ≤ (i : Int) := by omega
      have i1 : (i : Int) < (n : Int) := by omega
      go_wp2_with (first
        | (go_at_call 40; (with_reducible refine HC0.out.mono ?_); rintro e w3 ⟨rfl, rfl⟩)
        | (go_at_call 26; (with_reducible refine (HRD.out _ HB.out).mono ?_); rintro e w4 ⟨v4, rfl, ho4, hb4⟩; obtain ⟨Ar, cr, rfl, -, hr4⟩ := ownN_rowQ ho4; have HR4 := Lib.hid hr4; have HB4 := Lib.hid hb4; clear ho4 hb4 hr4))
      clear hc
      have HO4 := Lib.hid (show OwnN w.heap.size w4 u5 S from HO.out.kept (row := none) ⟨HB4.out.os, HB4.out.tape, HB4.out.output, HB4.out.size, fun j hj _ => HB4.out.block j hj⟩ (by cases u5.ownBlock <;> simp))
      have HBW := Lib.hid (HB.out.trans (HB4.out.mono HB.out.size))
      obtain ⟨m, hm⟩ : ∃ m, R.length = m := ⟨_, rfl⟩
      have HMR := Lib.hid hm
      have hmn : m ≤ n := by rw [← hm]; exact HRL.out
      rw [hm]
      clear hm
      go_loopw [8, 26] (fun sv iv wr => ∃ j : Nat, sv = .bool (d0 || (R.take j).any fun r => decide (Comes l t r)) ∧ iv = .int .i64 j ∧ j ≤ m ∧ w4 = wr) (fun _ iv _ => m - (intOf iv).toNat)
      case atStart => exact ⟨0, by simp, rfl, Nat.zero_le _, rfl⟩
      case round =>
        obtain ⟨j, rfl, rfl, hj, rfl⟩ := hrel
        by_cases hjm : j < m
        · have hjl : j < R.length := by rw [HMR.out]; exact hjm
          obtain ⟨b5, o5, rfl, -, hc5⟩ := HR4.out j hjl
          obtain ⟨r, hr⟩ : ∃ r, R[j] = r := ⟨_, rfl⟩
          rw [hr] at hc5
          have HTJ : Hid ((R.take (j + 1)).any (fun r => decide (Comes l t r)) = ((R.take j).any (fun r => decide (Comes l t r)) || decide (Comes l t r))) := by show _ = _; rw [List.take_succ_eq_append_getElem hjl, hr, List.any_append]; simp
          have HCR := Lib.hid (HCM.out w4 r HBW.out)
          clear hr hjl
          generalize decide (Comes l t r) = dr at *
          generalize ((R.take j).any fun r => decide (Comes l t r)) = dj at *
          have j0 : (0 : Int) ≤ (j : Int) := by omega
          have j1 : (j : Int) < (m : Int) := by omega
          cases d0 <;> cases dj
          all_goals
            go_wp2_with (go_at_call 40; (with_reducible refine HCR.out.mono ?_); rintro e w5 ⟨rfl, rfl⟩)
            go_roundw
            case rel => exact ⟨j + 1, by rw [HTJ.out]; first | rfl | simp, by go_num, by omega, trivial⟩
            case measure => simp [intOf]; omega
        · obtain rfl : j = m := by omega
          have HTT : Hid (R.take j = R) := by show _ = _; rw [← HMR.out, List.take_length]
          rw [HTT.out, HCS.out]
          cases bf with
          | true =>
            go_wp2_with (with_reducible (show wpList _ _ _ _ _ _); refine app_n rfl (.tmp 40) (.tmp 42) rfl w.heap.size u5 S rfl (HO4.out.alloc _) w4.heap.size 1 t rfl ((Blk.new w4 _ _).cell 0) (Nat.le_trans HLT.out (by omega)) (by have := HBW.out.size; simp; omega) ?_; intro v5 w5 ho5 hg5; have HO5 := Lib.hid ho5; have HB5 := Lib.hid ((HBW.out.alloc HBW.out.size _).grown hg5 (by have := HBW.out.size; simp; omega) (fun r e => (HO4.out.lt r e).1)); clear ho5 hg5)
            go_roundw
            case rel => exact ⟨i + 1, by first | rfl | go_num, by omega, by rw [HTK.out]; exact HO5.out, HB5.out⟩
            case measure => simp [intOf]; omega
          | false =>
            go_wp2_with fail
            go_roundw
            case rel => exact ⟨i + 1, by first | rfl | go_num, by omega, by rw [HTK.out]; simpa using HO4.out, HBW.out⟩
            case measure => simp [intOf]; omega
    · obtain rfl : i = n := by omega
      have HT : Hid (l.take i = l) := by show _ = _; rw [← HN.out, List.take_length]
      rw [HT.out] at HO HLT
      obtain ⟨As, cps, rfl, -, hr⟩ := ownN_rowQ HO.out
      have HRI := Lib.hid (refrising_any As _ _ cps rfl (by have := HLT.out; omega) w0 hr)
      clear hr
      go_wp2_with (go_at_call 41; (with_reducible refine HRI.out.mono ?_); rintro e w4 ⟨v4, rfl, ho4, hb4⟩; have HO4 := Lib.hid ho4; have HB4 := Lib.hid hb4; clear ho4 hb4)
      go_ret
      exact ⟨_, rfl, ownN_base HO4.out HB.out.size, HB.out.trans (HB4.out.mono HB.out.size)⟩
end Go.Proofs.Ytogplndhciaoeaa
