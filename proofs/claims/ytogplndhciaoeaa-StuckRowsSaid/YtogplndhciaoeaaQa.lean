/- layer 27 (stuck): the document's On and Comes. -/
import Derived.Test.YtogplndhciaoeaaBu
import Derived.Test.YtogplndhciaoeaaPd
import Derived.RegionTactic
import Derived.ChangeAlike
namespace Go.Proofs.Ytogplndhciaoeaa
open Go.RowKit
set_option maxRecDepth 100000

/-- a row of numbers that may be read. -/
def RowN (B : Nat) (w : World) (A : Option Addr) (l : List Int) : Prop := ∀ i (hi : i < l.length), ∃ b off, A = some ⟨b, off, none⟩ ∧ b < B ∧ w.cell? ⟨b, off + i, none⟩ = some (.int .i64 l[i])
theorem RowN.below {B : Nat} {w w' : World} {A : Option Addr} {l : List Int} (h : RowN B w A l) (hb : Below B w w') : RowN B w' A l := fun i hi => by
  obtain ⟨b, off, e, hlt, hc⟩ := h i hi
  exact ⟨b, off, e, hlt, (hb.cell (p := ⟨b, off + i, none⟩) hlt).trans hc⟩
def tupO : Option Int → Value
  | none => .tuple #[.int .i64 0, .bool false]
  | some u => .tuple #[.int .i64 u, .bool true]
theorem nxt_at (l : List (Int × Int)) (t : Int) : ∀ i (hi : i < l.length), (∀ j (hj : j < i), (l[j]'(by omega)).1 ≠ t) → (l[i]).1 = t → nxt l t = some (l[i]).2 := by
  induction l with
  | nil => intro i hi; exact absurd hi (by simp)
  | cons w l ih =>
    intro i hi h he
    rw [nxt_cons]
    match i, hi, h, he with
    | 0, _, _, he => exact if_pos he
    | i + 1, hi, h, he =>
      rw [if_neg (show ¬ w.1 = t from h 0 (by omega))]
      exact ih i (by simpa using hi) (fun j hj => h (j + 1) (by omega)) he
theorem nxt_no (l : List (Int × Int)) (t : Int) (h : ∀ j (hj : j < l.length), (l[j]).1 ≠ t) : nxt l t = none := nxt_none fun hm => by
  obtain ⟨w, hw, rfl⟩ := List.mem_map.1 hm
  obtain ⟨i, hi, rfl⟩ := List.mem_iff_getElem.1 hw
  exact h i hi rfl
set_option maxHeartbeats 4000000 in
theorem on_any (A1 A2 : Option Addr) (l : List (Int × Int)) (n c1 c2 : Nat) (hn : l.length = n) (hl : n ≤ 1000) (B : Nat) (t : Int) (w : World) (h1 : RowN B w A1 (l.map (·.1))) (h2 : RowN B w A2 (l.map (·.2))) :
    Calls Try.prog 29 #[.slice A1 n c1, .slice A2 n c2, .int .i64 t] w fun e w' => e = .returned (tupO (nxt l t)) ∧ w = w' := by
  have HN := Lib.hid hn; have H1 := Lib.hid h1; have H2 := Lib.hid h2
  obtain ⟨R, hR⟩ : ∃ R, nxt l t = R := ⟨_, rfl⟩
  rw [hR]
  have HR := Lib.hid hR
  clear hn h1 h2 hR
  go_enter Try.func29, Try.ntmps29
  go_wp2_with fail
  go_loopw [12] (fun iv wr => ∃ i : Nat, iv = .int .i64 i ∧ i ≤ n ∧ (∀ j (hj : j < i) (hl : j < l.length), (l[j]).1 ≠ t) ∧ w = wr) (fun iv _ => n - (intOf iv).toNat)
  case atStart => exact ⟨0, rfl, Nat.zero_le _, fun j hj => absurd hj (by omega), rfl⟩
  case round =>
    obtain ⟨i, rfl, hi, hno, rfl⟩ := hrel
    have HNO := Lib.hid hno
    clear hno
    by_cases hlt : i < n
    · have hil : i < l.length := by rw [HN.out]; exact hlt
      obtain ⟨b1, o1, rfl, -, c1'⟩ := H1.out i (by simpa using hil)
      obtain ⟨b2, o2, rfl, -, c2'⟩ := H2.out i (by simpa using hil)
      rw [List.getElem_map] at c1' c2'
      have i0 : (i : Int) < (n : Int) := by omega
      obtain ⟨x, hx⟩ : ∃ x, (l[i]).1 = x := ⟨_, rfl⟩
      obtain ⟨y, hy⟩ : ∃ y, (l[i]).2 = y := ⟨_, rfl⟩
      rw [hx] at c1'
      rw [hy] at c2'
      have HX := Lib.hid hx; have HY := Lib.hid hy
      clear hx hy
      by_cases hxt : x = t
      · subst hxt
        have HE : Hid (R = some y) := by
          show _ = _
          rw [← HR.out, ← HY.out]; exact nxt_at l x i hil (fun j hj => HNO.out j hj (by omega)) HX.out
        go_wp2_with fail
        go_ret2
        rw [HE.out]; exact ⟨rfl, rfl⟩
      · go_wp2_with fail
        go_roundw
        case rel => exact ⟨i + 1, by go_num, by omega, fun j hj hjl => by
          by_cases c : j = i
          · subst c; rw [HX.out]; exact hxt
          · exact HNO.out j (by omega) hjl, trivial⟩
        case measure => simp [intOf]; omega
    · obtain rfl : i = n := by omega
      have HE : Hid (R = none) := by
        show _ = _
        rw [← HR.out]; exact nxt_no l t fun j hj => HNO.out j (by have := HN.out; omega) hj
      go_wp2_with fail
      go_ret2
      rw [HE.out]; exact ⟨rfl, rfl⟩
open Classical in
set_option maxHeartbeats 4000000 in
theorem comes_any (A1 A2 : Option Addr) (l : List (Int × Int)) (n c1 c2 : Nat) (hn : l.length = n) (hl : n ≤ 1000) (B : Nat) (a b : Int) (w : World) (h1 : RowN B w A1 (l.map (·.1))) (h2 : RowN B w A2 (l.map (·.2))) :
    Calls Try.prog 40 #[.slice A1 n c1, .slice A2 n c2, .int .i64 a, .int .i64 b] w fun e w' => e = .returned (.bool (decide (Comes l a b))) ∧ w = w' := by
  have HN := Lib.hid hn; have H1 := Lib.hid h1; have H2 := Lib.hid h2
  obtain ⟨R, hR⟩ : ∃ R, decide (Comes l a b) = R := ⟨_, rfl⟩
  rw [hR]
  have HR := Lib.hid hR
  clear hn h1 h2 hR
  go_enter Try.func40, Try.ntmps40
  go_wp2_with fail
  go_loopw [9, 10] (fun av iv wr => ∃ (s : Int) (i : Nat), av = .int .i64 s ∧ iv = .int .i64 i ∧ i ≤ n + 1 ∧ itr l i a = some s ∧ (∀ j, 1 ≤ j → j ≤ i → itr l j a ≠ some b) ∧ w = wr) (fun _ iv _ => n + 1 - (intOf iv).toNat)
  case atStart => exact ⟨a, 0, rfl, rfl, by omega, rfl, fun j h1 h2 => absurd h1 (by omega), rfl⟩
  case round =>
    obtain ⟨s, i, rfl, rfl, hi, hs, hno, rfl⟩ := hrel
    have HS := Lib.hid hs; have HNO := Lib.hid hno
    clear hs hno
    by_cases hlt : i ≤ n
    · have i0 : (i : Int) ≤ (n : Int) := by omega
      have HO := Lib.hid (on_any A1 A2 l n c1 c2 HN.out hl B s w H1.out H2.out)
      match hv : nxt l s with
      | none =>
        rw [hv] at HO
        have HE : Hid (R = false) := by
          show _ = _
          rw [← HR.out]
          refine decide_eq_false ?_
          rintro ⟨j, j1, j2, j3⟩
          by_cases c : j ≤ i
          · exact HNO.out j j1 c j3
          · have h1 : itr l (i + 1) a = none := by rw [itr_add, HS.out]; exact (itr_one l s).trans hv
            rw [itr_none h1 (by omega)] at j3; cases j3
        clear hv
        unfold tupO at HO
        go_wp2_with (go_at_call 29; (with_reducible refine HO.out.mono ?_); rintro e w2 ⟨rfl, rfl⟩)
        go_ret
        rw [HE.out]; exact ⟨rfl, rfl⟩
      | some u =>
        rw [hv] at HO
        have HU : Hid (itr l (i + 1) a = some u) := by show _ = _; rw [itr_add, HS.out]; exact (itr_one l s).trans hv
        clear hv
        unfold tupO at HO
        by_cases hub : u = b
        · subst hub
          have HE : Hid (R = true) := by
            show _ = _
            rw [← HR.out]; exact decide_eq_true ⟨i + 1, by omega, by rw [HN.out]; omega, HU.out⟩
          go_wp2_with (go_at_call 29; (with_reducible refine HO.out.mono ?_); rintro e w2 ⟨rfl, rfl⟩)
          go_ret
          rw [HE.out]; exact ⟨rfl, rfl⟩
        · go_wp2_with (go_at_call 29; (with_reducible refine HO.out.mono ?_); rintro e w2 ⟨rfl, rfl⟩)
          go_roundw
          case rel => exact ⟨u, i + 1, rfl, by go_num, by omega, HU.out, fun j j1 j2 => by
            by_cases c : j = i + 1
            · subst c; rw [HU.out]; exact fun e => hub (by injection e)
            · exact HNO.out j j1 (by omega), trivial⟩
          case measure => simp [intOf]; omega
    · obtain rfl : i = n + 1 := by omega
      have HE : Hid (R = false) := by
        show _ = _
        rw [← HR.out]
        refine decide_eq_false ?_
        rintro ⟨j, j1, j2, j3⟩
        exact HNO.out j j1 (by rw [HN.out] at j2; exact j2) j3
      go_wp2_with fail
      go_ret
      rw [HE.out]; exact ⟨rfl, rfl⟩
end Go.Proofs.Ytogplndhciaoeaa
