/- lint.reach, in a fine program. -/
import Derived.Test.YthoddoabcdbliaaLs
import Derived.WalkMore
namespace Go.Proofs.Ythoddoabcdbliaa
open Go.RowKit

theorem haltL {p : Prop} (h : Hid p) : p := h.out
set_option maxRecDepth 100000 in
set_option maxHeartbeats 8000000 in
theorem reach_any (prio : Int) (A : Option Addr) (l : List I4) (cap : Nat) (w : World) (hI : InsIn w A l) (hf : Fine prio l) :
    Calls Try.prog 21 #[.agg #[.int .i64 prio, .slice A l.length cap]] w fun e w' => ∃ S : Nat → Bool, e = .returned (.int .u64 (wordB S 64 : Nat)) ∧ (∀ k, S k = true ↔ Rch l k) ∧ Below w.heap.size w w' := by
  have HF := Lib.hid hf; have HI := Lib.hid hI
  have HW0 := Lib.hid (RW.new w prio A l.length cap 0)
  obtain ⟨N, hN⟩ : ∃ N, l.length = N := ⟨_, rfl⟩
  have hlen := hf.len
  rw [hN] at hlen HW0 ⊢
  have HN := Lib.hid hN
  clear hN hI hf
  have h0 : (0 : Int) = ((wordB (fun _ => false) 64 : Nat) : Int) := by
    rw [show wordB (fun _ => false) 64 = 0 from Nat.eq_of_testBit_eq fun j => by rw [wordB_testBit]; simp]; rfl
  have HZ := Lib.hid h0; clear h0
  go_enter Try.func21, Try.ntmps21
  go_wp2_with fail
  go_step3
  go_wp2_with fail
  go_step3
  go_wp2_with fail
  go_loopw [3, 4] (fun s lv wr => ∃ (S : Nat → Bool) (L : List Int) (g c : Nat), s = .int .u64 (wordB S 64 : Nat) ∧ lv = .slice (some ⟨g, 0, none⟩) L.length c ∧ RInv l S (fun j => (j : Int) ∈ L) ∧ (∀ y ∈ L, 0 ≤ y ∧ y < (N : Int)) ∧ L.length ≤ cnt S N + 1 ∧ RW w wr prio A N cap L g c) (fun s lv _ => mes N s lv)
  case atStart =>
    refine ⟨fun _ => false, [0], w.heap.size + 1, 1, by rw [← HZ.out], rfl, (RInv.start l).weak (fun j h => .inr (by subst h; simp)) (fun j h => by simpa using h), by simp; omega, ?_, HW0.out⟩
    simp [cnt_false]
  case round =>
    obtain ⟨S, L, g, c, rfl, rfl, hr, hL, hc, hW⟩ := hrel
    clear HW0
    have HR := Lib.hid hr; have HLL := Lib.hid hL; have HCN := Lib.hid hc; have HW := Lib.hid hW
    clear hr hL hc hW
    by_cases hne : L = []
    · subst hne
      have hl0 : ([] : List Int).length = 0 := rfl
      have hdone := Lib.hid ((HR.out.weak (Q := fun _ => False) (fun j h => by simp at h) (fun j h => h.elim)).done)
      go_wp2_with fail
      rw [Exit.noGoto_ret]
      go_ret
      exact ⟨S, rfl, hdone.out, HW.out.below⟩
    · obtain ⟨L0, y, rfl⟩ : ∃ L0 y, L = L0 ++ [y] := ⟨L.dropLast, L.getLast hne, (List.dropLast_concat_getLast hne).symm⟩
      have hy := HLL.out y (by simp)
      obtain ⟨pc, rfl⟩ : ∃ pc : Nat, y = pc := ⟨y.toNat, by omega⟩
      have hlen1 : (L0 ++ [(pc : Int)]).length = L0.length + 1 := by simp
      have hget := HW.out.get (i := L0.length) (y := (pc : Int)) (by simp)
      have hle := HW.out.le
      rw [hlen1] at hle
      have hcn := HCN.out
      rw [hlen1] at hcn
      rw [hlen1]
      have HP := Lib.hid HW.out.pop
      have HL0 : Hid (∀ y ∈ L0, 0 ≤ y ∧ y < (N : Int)) := fun y h => HLL.out y (by simp [h])
      have HRI : Hid (RInv l S (fun j => (j : Int) ∈ L0 ∨ j = pc)) := HR.out.weak (fun j h => .inr (by
        rcases List.mem_append.1 h with q | q
        · exact .inl q
        · refine .inr ?_; have := List.mem_singleton.1 q; omega)) (fun j h => by
        rcases h with q | q
        · exact List.mem_append.2 (.inl q)
        · exact List.mem_append.2 (.inr (by simp [q])))
      obtain ⟨m, hm⟩ : ∃ m, L0.length = m := ⟨_, rfl⟩
      have HMM := Lib.hid hm
      rw [hm] at hget hle hcn ⊢
      have hz : ¬ c = 0 := by omega
      have hm64 : m ≤ 64 := by have := cnt_le S N; omega
      have hpcN : pc < N := by omega
      clear hm hlen1 HR HLL HCN HW hne hy
      go_wp2_with fail
      go_loopw [3, 4, 5] (fun s lv pv wx => ∃ (S' : Nat → Bool) (L' : List Int) (g' c' k : Nat), s = .int .u64 (wordB S' 64 : Nat) ∧ lv = .slice (some ⟨g', 0, none⟩) L'.length c' ∧ pv = .int .i64 k ∧ k < N ∧ RInv l S' (fun j => (j : Int) ∈ L' ∨ j = k) ∧ (∀ y ∈ L', 0 ≤ y ∧ y < (N : Int)) ∧ L'.length ≤ cnt S' N ∧ 2 * (N - cnt S' N) + L'.length < 2 * (N - cnt S N) + (m + 1) ∧ RW w wx prio A N cap L' g' c') (fun s _ _ _ => mes1 N s)
      case atStart => exact ⟨S, L0, g, c, pc, rfl, by rw [HMM.out], rfl, hpcN, HRI.out, HL0.out, by rw [HMM.out]; omega, by rw [HMM.out]; omega, HP.out⟩
      case round =>
        obtain ⟨S', L', g', c', k, rfl, rfl, rfl, hk, hr, hL, hc, hms, hW⟩ := hrel
        clear HRI HL0 HP hget HMM hpcN
        have HR := Lib.hid hr; have HLL := Lib.hid hL; have HW := Lib.hid hW
        have HAS := Lib.hid (has64_any S' k wr (by omega))
        clear hr hL hW
        obtain ⟨x0, x1, x2⟩ := HW.out.cells
        by_cases hS : S' k = true
        · rw [hS] at HAS
          have HRW := Lib.hid (HR.out.weak (Q := fun j => (j : Int) ∈ L') (fun j h => by
            rcases h with q | q
            · exact .inr q
            · exact .inl (by rw [q]; exact hS)) (fun j h => .inl h))
          clear HR hS
          go_wp2_with (go_at_call 22; (with_reducible refine HAS.out.mono ?_); rintro e wq ⟨rfl, rfl⟩)
          go_roundw
          case rel => exact ⟨S', L', g', c', rfl, rfl, HRW.out, HLL.out, by omega, HW.out⟩
          case measure => rw [mes_eq (by omega), mes_eq (by omega)]; exact hms
        · have hS' : S' k = false := by simpa using hS
          rw [hS'] at HAS
          obtain ⟨x, hx⟩ : ∃ x, l[k]? = some x := ⟨_, List.getElem?_eq_getElem (by rw [HN.out]; exact hk)⟩
          have HNX : Hid (∀ W, Below w.heap.size w W → Calls Try.prog 12 #[.agg #[.int .i64 prio, .slice A N cap], .int .i64 k] W (NextP (nextP x k) W)) := fun W h => by
            have := next_any x prio A l cap k W (HI.out.below h) hx HF.out
            rwa [HN.out] at this
          have hin := nextP_in HF.out hx (HI.out k x hx).1.n
          rw [HN.out] at hin
          have hlen2 := nextP_len x k
          have hcp := cnt_put S' hk hS'
          have hcl := cnt_le (fun n => S' n || decide (n = k)) N
          have H1 := Lib.hid (one_any k wr (by omega))
          have hor := or_one S' (k := k) (by omega)
          have HXX := Lib.hid hx
          obtain ⟨ys, hys⟩ : ∃ ys, nextP x k = ys := ⟨_, rfl⟩
          rw [hys] at HNX hin hlen2
          have HRN : Hid (∀ Q : Nat → Prop, (∀ j : Nat, (j : Int) ∈ L' → Q j) → (∀ j : Nat, (j : Int) ∈ ys → Q j) → (∀ j, Q j → (j : Int) ∈ L' ∨ (j : Int) ∈ ys) → RInv l (fun n => S' n || decide (n = k)) Q) := fun Q q1 q2 q3 =>
            HR.out.next hx (.inr rfl) (fun j h => h.elim (fun z => .inr (q1 j z)) .inl) (fun j h => q2 j (by rw [hys] at h; exact h)) (fun j h => (q3 j h).elim (fun z => .inl (.inl z)) (fun z => .inr (by rw [hys]; exact z)))
          have HINY := Lib.hid hin
          clear hys HR hx hin hS
          go_wp2_with (first
            | (go_at_call 22; (with_reducible refine HAS.out.mono ?_); rintro e wq ⟨rfl, rfl⟩)
            | (go_at_call 32; (with_reducible refine H1.out.mono ?_); rintro e wq ⟨rfl, rfl⟩))
          refine (HNX.out _ HW.out.below).mono ?_
          rintro e w5 ⟨B, cap5, rfl, hns, h5, hfr⟩
          dsimp only
          have HW5 := Lib.hid (HW.out.on h5)
          have hgl := HW.out.lt
          have HNS := Lib.hid hns
          clear hns h5 HW HNX x0 x1 x2 HAS H1
          match ys, hlen2 with
          | [], _ =>
            have HRQ := Lib.hid (HRN.out (fun j => (j : Int) ∈ L') (fun j h => h) (fun j h => by simp at h) (fun j h => .inl h))
            go_wp2_with fail
            go_roundw
            case rel => exact ⟨_, L', g', c', rfl, rfl, HRQ.out, HLL.out, by omega, HW5.out⟩
            case measure => rw [mes_eq (by omega), mes_eq (by omega)]; omega
          | [y], _ =>
            obtain ⟨bb, off, rfl, hbl, c0⟩ := HNS.out 0 y rfl
            rw [Nat.add_zero] at c0
            obtain ⟨y0, y1⟩ := HINY.out y (by simp)
            obtain ⟨j, rfl⟩ : ∃ j : Nat, y = j := ⟨y.toNat, by omega⟩
            have HRQ := Lib.hid (HRN.out (fun i => (i : Int) ∈ L' ∨ i = j) (fun i h => .inl h) (fun i h => .inr (by simp at h; omega)) (fun i h => h.elim .inl (fun q => .inr (by rw [q]; simp))))
            go_wp2_with fail
            go_roundw
            case rel => exact ⟨_, L', g', c', j, rfl, rfl, rfl, by omega, HRQ.out, HLL.out, by omega, by omega, HW5.out⟩
            case measure => rw [mes1_eq (by omega), mes1_eq (by omega)]; omega
          | [y0, y1], _ =>
            obtain ⟨bb, off, rfl, hbl, c0⟩ := HNS.out 0 y0 rfl
            obtain ⟨bb', off', e', -, c1⟩ := HNS.out 1 y1 rfl
            cases e'
            rw [Nat.add_zero] at c0
            obtain ⟨u0, u1⟩ := HINY.out y0 (by simp)
            obtain ⟨u2, u3⟩ := HINY.out y1 (by simp)
            obtain ⟨j, rfl⟩ : ∃ j : Nat, y0 = j := ⟨y0.toNat, by omega⟩
            have hne : bb ≠ g' := by have := hfr _ rfl; dsimp only at this; omega
            have HRQ := Lib.hid (HRN.out (fun i => (i : Int) ∈ L' ++ [y1] ∨ i = j) (fun i h => .inl (List.mem_append.2 (.inl h))) (fun i h => by
              simp at h
              rcases h with q | q
              · exact .inr (by omega)
              · exact .inl (by rw [q]; simp)) (fun i h => by
              rcases h with q | q
              · rcases List.mem_append.1 q with z | z
                · exact .inl z
                · exact .inr (by have := List.mem_singleton.1 z; rw [this]; simp)
              · exact .inr (by rw [q]; simp)))
            have hb8 : Below w5.heap.size w5 (w5.alloc (.cells #[.int .i64 y1] 3)) := (Below.refl _ _).alloc (Nat.le_refl _) _
            have HW8 := Lib.hid (HW5.out.on hb8)
            have hbs := (Blk.new w5 3 #[.int .i64 y1]).cell 0
            simp only [List.getElem?_toArray, List.getElem?_cons_zero] at hbs
            have HBS := Lib.hid hbs
            have HC8 : Hid ((w5.alloc (.cells #[.int .i64 y1] 3)).cell? ⟨bb, off, none⟩ = some (.int .i64 j)) := (hb8.cell (p := ⟨bb, off, none⟩) hbl).trans c0
            clear hb8 hbs
            go_wp2_with (at_builtin; refine haltL ?_)
            refine Lib.hid ?_
            refine app_num rfl (.tmp 39) (.tmp 43) rfl HW8.out rfl _ y1 rfl HBS.out (by omega) ?_
            intro g9 c9 w9 h9 gr9
            have HW9 := Lib.hid h9
            have c9 : w9.cell? ⟨bb, off, none⟩ = some (.int .i64 j) := gr9.cell HC8.out (by simpa using hne)
            have hl9 : (L' ++ [y1]).length = L'.length + 1 := by simp
            have HL9 : Hid (∀ y ∈ L' ++ [y1], 0 ≤ y ∧ y < (N : Int)) := fun y h => by
              rcases List.mem_append.1 h with q | q
              · exact HLL.out y q
              · have := List.mem_singleton.1 q; rw [this]; exact ⟨u2, u3⟩
            clear h9 gr9 HBS HC8 HW8 c0 c1
            go_wp2_with fail
            go_roundw
            case rel => exact ⟨_, L' ++ [y1], g9, _, j, rfl, by rw [hl9], rfl, by omega, HRQ.out, HL9.out, by omega, by omega, HW9.out⟩
            case measure => rw [mes1_eq (by omega), mes1_eq (by omega)]; omega
end Go.Proofs.Ythoddoabcdbliaa
