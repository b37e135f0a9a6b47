/- layer 33 (fair): Even. -/
import Derived.Test.YtogplndhciaoeaaFk
namespace Go.Proofs.Ytogplndhciaoeaa
open Go.RowKit Go.Maps
set_option maxRecDepth 100000

theorem ownN_row {w : World} {B : Nat} {D : Value} {L : List Int} (h : OwnN B w D L) : ∃ A cap, D = .slice A L.length cap ∧ L.length ≤ cap ∧ RowN w.heap.size w A L := by
  have h' := h
  rcases h.2 with ⟨rfl, hn⟩ | ⟨g, cap, cur, rfl, hg, hh, hnc, _⟩
  · have : L = [] := List.eq_nil_of_length_eq_zero hn
    subst this
    exact ⟨none, 0, rfl, Nat.le_refl _, fun i hi => by simp at hi⟩
  · refine ⟨some ⟨g, 0, none⟩, cap, rfl, hnc, fun i hi => ⟨g, 0, rfl, (h'.lt g rfl).2, ?_⟩⟩
    have := h'.cells (g := g) rfl i (.int .i64 L[i]) (by rw [List.getElem?_map, List.getElem?_eq_getElem hi]; rfl)
    rwa [Addr.add_mid] at this
theorem foldl_maxI_le : ∀ (l : List Int) (m n : Int), m ≤ n → (∀ x ∈ l, x ≤ n) → l.foldl max m ≤ n
  | [], m, n, h, _ => h
  | x :: r, m, n, h, hx => foldl_maxI_le r (max m x) n (by have := hx x (by simp); omega) fun y hy => hx y (by simp [hy])
theorem foldl_minI_ge : ∀ (l : List Int) (m n : Int), n ≤ m → (∀ x ∈ l, n ≤ x) → n ≤ l.foldl min m
  | [], m, n, h, _ => h
  | x :: r, m, n, h, hx => foldl_minI_ge r (min m x) n (by have := hx x (by simp); omega) fun y hy => hx y (by simp [hy])
theorem foldl_maxI_ge : ∀ (l : List Int) (m : Int), m ≤ l.foldl max m ∧ ∀ x ∈ l, x ≤ l.foldl max m
  | [], m => ⟨Int.le_refl _, fun x hx => by cases hx⟩
  | x :: r, m => by
    obtain ⟨h1, h2⟩ := foldl_maxI_ge r (max m x)
    refine ⟨by rw [List.foldl_cons]; omega, fun y hy => ?_⟩
    rw [List.foldl_cons]
    rcases List.mem_cons.1 hy with rfl | hy
    · omega
    · exact h2 y hy
theorem foldl_minI_le : ∀ (l : List Int) (m : Int), l.foldl min m ≤ m ∧ ∀ x ∈ l, l.foldl min m ≤ x
  | [], m => ⟨Int.le_refl _, fun x hx => by cases hx⟩
  | x :: r, m => by
    obtain ⟨h1, h2⟩ := foldl_minI_le r (min m x)
    refine ⟨by rw [List.foldl_cons]; omega, fun y hy => ?_⟩
    rw [List.foldl_cons]
    rcases List.mem_cons.1 hy with rfl | hy
    · omega
    · exact h2 y hy
theorem maxI_le {l : List Int} {n : Int} (h0 : l ≠ []) (h : ∀ x ∈ l, x ≤ n) : maxI l ≤ n := by
  match l with
  | x :: r => exact foldl_maxI_le r x n (h x (by simp)) fun y hy => h y (by simp [hy])
theorem minI_ge {l : List Int} {n : Int} (h0 : l ≠ []) (h : ∀ x ∈ l, n ≤ x) : n ≤ minI l := by
  match l with
  | x :: r => exact foldl_minI_ge r x n (h x (by simp)) fun y hy => h y (by simp [hy])
theorem maxI_ge {l : List Int} {x : Int} (h : x ∈ l) : x ≤ maxI l := by
  match l with
  | y :: r =>
    obtain ⟨h1, h2⟩ := foldl_maxI_ge r y
    rcases List.mem_cons.1 h with rfl | h
    · exact h1
    · exact h2 x h
theorem minI_le {l : List Int} {x : Int} (h : x ∈ l) : minI l ≤ x := by
  match l with
  | y :: r =>
    obtain ⟨h1, h2⟩ := foldl_minI_le r y
    rcases List.mem_cons.1 h with rfl | h
    · exact h1
    · exact h2 x h
theorem stepsL_bound (L : List En) (cpus : List Int) : ∀ x ∈ stepsL L cpus, 0 ≤ x ∧ x ≤ (L.length : Int) := fun x hx => by
  obtain ⟨c, _, rfl⟩ := List.mem_map.1 hx
  have := List.countP_le_length (p := isS c) (l := L)
  omega
/-- do no two differ by more than one? -/
def evenL (s : List Int) : Prop := s = [] ∨ maxI s - minI s ≤ 1
theorem evenL_iff (s : List Int) : evenL s ↔ ∀ x ∈ s, ∀ y ∈ s, x - y ≤ 1 := by
  constructor
  · rintro (rfl | h) x hx y hy
    · cases hx
    · have := maxI_ge hx; have := minI_le hy; omega
  · intro h
    match s with
    | [] => exact .inl rfl
    | a :: r =>
      right
      have h1 : ∀ y ∈ a :: r, maxI (a :: r) ≤ 1 + y := fun y hy => maxI_le (by simp) fun x hx => by have := h x hx y hy; omega
      have h2 : maxI (a :: r) - 1 ≤ minI (a :: r) := minI_ge (by simp) fun y hy => by have := h1 y hy; omega
      omega
open Classical in
set_option maxHeartbeats 4000000 in
theorem even_any (A A2 : Option Addr) (L : List En) (n cap : Nat) (cpus : List Int) (m cap2 : Nat) (hn : L.length = n) (hl : n ≤ 900) (hm : cpus.length = m) (hm2 : m ≤ 900) (hf : ∀ x ∈ L, W64 x.a) (hf2 : ∀ x ∈ cpus, W64 x) (w : World) (hR : RowsE w.heap.size w A L) (hN : RowN w.heap.size w A2 cpus) :
    Calls Try.prog 21 #[.slice A n cap, .slice A2 m cap2] w fun e w' => e = .returned (.bool (decide (evenL (stepsL L cpus)))) ∧ Below w.heap.size w w' := by
  have HS := Lib.hid (steps_any A A2 L n cap cpus m cap2 hn hl hm hm2 hf hf2 w hR hN)
  have HBD := Lib.hid (stepsL_bound L cpus)
  have HLE : Hid ((stepsL L cpus).length = m) := by show _ = _; unfold stepsL; rw [List.length_map]; exact hm
  rw [hn] at HBD
  clear hR hN hm hf hf2 hn
  generalize stepsL L cpus = s at *
  go_enter Try.func21, Try.ntmps21
  go_upto_region 2 with (go_at_call 20; (with_reducible refine HS.out.mono ?_); rintro e w1 ⟨v, rfl, ho, hb⟩; have HO := Lib.hid ho; have HB := Lib.hid hb; clear ho hb)
  obtain ⟨As, cps, rfl, -, hr⟩ := ownN_row HO.out
  have HR := Lib.hid hr
  clear hr HS HO
  rw [HLE.out]
  by_cases h0 : m = 0
  · subst h0
    have HE : Hid (decide (evenL s) = true) := by
      show _ = _
      exact decide_eq_true (.inl (List.eq_nil_of_length_eq_zero HLE.out))
    go_wp2_with fail
    go_ret
    rw [HE.out]; exact ⟨rfl, HB.out⟩
  · have hs : s ≠ [] := by rintro rfl; exact h0 HLE.out.symm
    have HMX := Lib.hid (max_any As s m cps _ HLE.out (by omega) (by omega) w1 HR.out)
    have HMN := Lib.hid (min_any As s m cps _ HLE.out (by omega) (by omega) w1 HR.out)
    have b1 : maxI s ≤ (n : Int) := maxI_le hs fun x hx => (HBD.out x hx).2
    have b2 : 0 ≤ minI s := minI_ge hs fun x hx => (HBD.out x hx).1
    have b3 : minI s ≤ maxI s := by
      match s, hs with
      | x :: r, _ => exact Int.le_trans (minI_le (x := x) (by simp)) (maxI_ge (by simp))
    have HE : Hid (decide (evenL s) = decide (maxI s - minI s ≤ 1)) := by
      show _ = _
      unfold evenL
      simp [hs]
    generalize maxI s = x at *
    generalize minI s = y at *
    have m0 : ((m : Int) == 0) = false := by rw [beq_eq_false_iff_ne]; omega
    have m1 : ¬ (m : Int) = 0 := by omega
    have hw1 : wrap64 (x - y) = x - y := by unfold wrap64; omega
    clear hs h0
    by_cases hxy : x - y ≤ 1
    · have HE' : Hid (decide (evenL s) = true) := by show _ = _; rw [HE.out]; exact decide_eq_true hxy
      go_wp2_with (first
        | (go_at_call 35; (with_reducible refine HMX.out.mono ?_); rintro e w2 ⟨rfl, rfl⟩)
        | (go_at_call 36; (with_reducible refine HMN.out.mono ?_); rintro e w2 ⟨rfl, rfl⟩))
      go_ret
      rw [HE'.out]; exact ⟨rfl, HB.out⟩
    · have HE' : Hid (decide (evenL s) = false) := by show _ = _; rw [HE.out]; exact decide_eq_false hxy
      go_wp2_with (first
        | (go_at_call 35; (with_reducible refine HMX.out.mono ?_); rintro e w2 ⟨rfl, rfl⟩)
        | (go_at_call 36; (with_reducible refine HMN.out.mono ?_); rintro e w2 ⟨rfl, rfl⟩))
      go_ret
      rw [HE'.out]
      refine ⟨?_, HB.out⟩
      show Ending.returned (.bool (decide (x - y ≤ 1))) = _
      rw [decide_eq_false (show ¬ x - y ≤ 1 by omega)]
end Go.Proofs.Ytogplndhciaoeaa
