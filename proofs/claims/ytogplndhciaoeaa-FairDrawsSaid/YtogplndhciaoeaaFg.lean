/- layer 33 (fair): rows of entries of a call's own; Round. -/
import Derived.Test.YtogplndhciaoeaaFf
namespace Go.Proofs.Ytogplndhciaoeaa
open Go.RowKit
set_option maxRecDepth 100000

def dsE (ts : List En) : List Value := (ts.map clE).flatten
theorem dsE_cons (x : En) (r : List En) : dsE (x :: r) = clE x ++ dsE r := by unfold dsE; rw [List.map_cons, List.flatten_cons]
theorem dsE_len : ∀ ts : List En, (dsE ts).length = ts.length * 5
  | [] => rfl
  | x :: t => by rw [dsE_cons, List.length_append, dsE_len t, clE_len, List.length_cons]; omega
theorem dsE_app (a b : List En) : dsE (a ++ b) = dsE a ++ dsE b := by unfold dsE; rw [List.map_append, List.flatten_append]
theorem dsE_one (x : En) : dsE [x] = clE x := by rw [dsE_cons]; simp [dsE]
theorem dsE_get : ∀ (ts : List En) (i : Nat) (x : En), ts[i]? = some x → ∀ j, j < 5 → (dsE ts)[i * 5 + j]? = (clE x)[j]?
  | [], _, _, h, _, _ => by simp at h
  | y :: t, 0, x, h, j, hj => by
    simp at h; subst h
    rw [Nat.zero_mul, Nat.zero_add, dsE_cons, List.getElem?_append_left (by rw [clE_len]; exact hj)]
  | y :: t, i + 1, x, h, j, hj => by
    rw [dsE_cons, List.getElem?_append_right (by rw [clE_len]; omega), clE_len, show (i + 1) * 5 + j - 5 = i * 5 + j by omega]
    exact dsE_get t i x (by simpa using h) j hj
/-- a row of entries of the call's own. -/
abbrev OwnE (B : Nat) (w : World) (D : Value) (L : List En) : Prop := w.ownsRow B 34 5 D L.length (dsE L)
theorem ownE {w : World} {B : Nat} {D : Value} {L : List En} (h : OwnE B w D L) : ∃ A cap, D = .slice A L.length cap ∧ L.length ≤ cap ∧ RowsE w.heap.size w A L := by
  have h' := h
  rcases h.2 with ⟨rfl, hn⟩ | ⟨g, cap, cur, rfl, hg, hh, hnc, _⟩
  · have : L = [] := List.eq_nil_of_length_eq_zero hn
    subst this
    exact ⟨none, 0, rfl, Nat.le_refl _, fun i x hx => by simp at hx⟩
  · refine ⟨some ⟨g, 0, none⟩, cap, rfl, hnc, fun i x hx => ⟨g, 0, rfl, (h'.lt g rfl).2, fun j u hj => ?_⟩⟩
    have hj5 : j < 5 := by have := (List.getElem?_eq_some_iff.1 hj).1; rwa [clE_len] at this
    have := h'.cells (g := g) rfl (i * 5 + j) u (by rw [dsE_get L i x hx j hj5]; exact hj)
    have hadd : (⟨g, 0, none⟩ : Addr).add (i * 5 + j) = ⟨g, 0 + i * 5 + j, none⟩ := by unfold Addr.add; split <;> simp_all
    rw [← hadd]; exact this
theorem app_e {ops : Array Oper} {rest : List Oper} {o : Oper} {a : Act} {w : World} {Q : Exit → Act → World → Prop} (hgd : o.guard = none) (s x : Operand) (ho : o.op = .call { callee := .builtin .append, args := #[s, x], argTypes := #[28, 28] })
    (B : Nat) (v : Value) (l : List En) (hs : a.eval s = v) (h : OwnE B w v l) (g cap : Nat) (z : En) (hx : a.eval x = .slice (some ⟨g, 0, none⟩) 1 cap) (hc : Blk w g 34 (clE z).toArray) (hl : l.length ≤ 100000) (hB : B ≤ w.heap.size)
    (K : ∀ v' w', OwnE B w' v' (l ++ [z]) → w.grownBy w' v.ownBlock → wpList Try.prog ops Q rest (a.put o.dst v') w') : wpList Try.prog ops Q (o :: rest) a w := by
  obtain ⟨i0, hi0, hz0, hz1, hz2⟩ := info_partsN infoEP
  have hnew : ∀ j u, (clE z)[j]? = some u → w.cell? ((⟨g, 0, none⟩ : Addr).add j) = some u := fun j u hu => by
    rw [Addr.add_mid, hc.cell]; simpa using hu
  refine wpList_append_own w hgd s x 28 ho B 34 i0 _ 5 40 Try.underlying28 hi0 hz0 hz1 hz2 rfl (by decide) v l.length _ hs h ⟨g, 0, none⟩ 1 cap (clE z) hx rfl hnew (fun u hu => by have := clE_one z; rw [Array.all_eq_true'] at this; exact this u (by simpa using hu)) (by unfold maxLen; omega) (by omega) hB ?_
  intro v' w' h1 h2 _
  exact K v' w' (by unfold OwnE; rw [List.length_append, dsE_app, dsE_one]; exact h1) h2
/-- k steps, of the workers by turns. -/
def roundL (cpus : List Int) (k : Nat) : List En := (List.range k).map fun i => ⟨1, cpus.getD (i % cpus.length) 0, 0, 0, 0⟩
theorem roundL_succ (cpus : List Int) (k : Nat) : roundL cpus (k + 1) = roundL cpus k ++ [⟨1, cpus.getD (k % cpus.length) 0, 0, 0, 0⟩] := by unfold roundL; rw [List.range_succ, List.map_append]; rfl
theorem roundL_len (cpus : List Int) (k : Nat) : (roundL cpus k).length = k := by simp [roundL]
theorem round_none (A : Option Addr) (cap : Nat) (n : Int) (w : World) :
    Calls Try.prog 22 #[.slice A 0 cap, .int .i64 n] w fun e w' => e = .returned (.slice none 0 0) ∧ w = w' := by
  go_enter Try.func22, Try.ntmps22
  go_wp2_with fail
  go_ret
  exact ⟨rfl, rfl⟩
set_option maxHeartbeats 4000000 in
theorem round_any (A : Option Addr) (cpus : List Int) (c cap : Nat) (hc : cpus.length = c) (hc0 : 0 < c) (hcl : c ≤ 1000000) (n : Int) (N : Nat) (hN : (min n 4096).toNat = N) (w : World) (hR : RowN w.heap.size w A cpus) :
    Calls Try.prog 22 #[.slice A c cap, .int .i64 n] w fun e w' => ∃ v, e = .returned v ∧ OwnE w.heap.size w' v (roundL cpus N) ∧ Below w.heap.size w w' := by
  have hN' : (n ≤ 4096 ∧ n.toNat = N) ∨ (4096 < n ∧ 4096 = N) := by
    rw [Int.min_def] at hN
    split at hN
    · exact .inl ⟨by omega, hN⟩
    · exact .inr ⟨by omega, by omega⟩
  have HR := Lib.hid hR; have HC := Lib.hid hc
  clear hN hR hc
  go_enter Try.func22, Try.ntmps22
  have c0 : ((c : Int) == 0) = false := by rw [beq_eq_false_iff_ne]; omega
  have c1 : ¬ (c : Int) = 0 := by omega
  rcases hN' with ⟨hn, hN⟩ | ⟨hn, hN⟩
  all_goals
    go_wp2_with fail
    go_loopw [5, 12] (fun rv iv wr => ∃ k : Nat, iv = .int .i64 k ∧ k ≤ N ∧ OwnE w.heap.size wr rv (roundL cpus k) ∧ Below w.heap.size w wr) (fun _ iv _ => N - (intOf iv).toNat)
    case atStart => exact ⟨0, rfl, Nat.zero_le _, World.ownsRow_nil _ _ _ _, Below.refl _ _⟩
    case round =>
      obtain ⟨k, rfl, hk, ho, hb⟩ := hrel
      have HO := Lib.hid ho; have HB := Lib.hid hb
      clear ho hb
      by_cases hlt : k < N
      · have k1 : (k : Int) < n := by omega
        have k2 : (k : Int) < 4096 := by omega
        have HLL : Hid ((roundL cpus k).length ≤ 100000) := by show _ ≤ _; rw [roundL_len]; omega
        have hm : k % c < c := Nat.mod_lt _ hc0
        obtain ⟨b, o, rfl, hbn, hcc⟩ := (HR.out.below HB.out) (k % c) (by rw [HC.out]; exact hm)
        have HD : Hid (roundL cpus (k + 1) = roundL cpus k ++ [⟨1, cpus[k % c]'(by rw [HC.out]; exact hm), 0, 0, 0⟩]) := by
          show _ = _
          have e : k % cpus.length = k % c := by rw [HC.out]
          rw [roundL_succ, e, List.getD_eq_getElem?_getD, List.getElem?_eq_getElem (by rw [HC.out]; exact hm)]; rfl
        generalize cpus[k % c]'(by rw [HC.out]; exact hm) = x at *
        have hmod : Int.tmod (k : Int) (c : Int) = ((k % c : Nat) : Int) := by rw [Int.ofNat_tmod]
        have m0 : (0 : Int) ≤ ((k % c : Nat) : Int) := by omega
        have m1 : ((k % c : Nat) : Int) < (c : Int) := by omega
        clear hn hN
        go_wp2_with (with_reducible (show wpList _ _ _ _ _ _); refine app_e rfl (.tmp 15) (.tmp 24) rfl w.heap.size _ (roundL cpus k) rfl (HO.out.alloc _) wr.heap.size 1 ⟨1, x, 0, 0, 0⟩ rfl (Blk.new wr _ _) HLL.out (by have := HB.out.size; simp; omega) ?_; intro v5 w5 ho5 hg5; have HO5 := Lib.hid ho5; have HG5 := Lib.hid hg5; clear ho5 hg5)
        go_roundw
        case rel =>
          refine ⟨k + 1, rfl, by omega, by rw [HD.out]; exact HO5.out, ?_⟩
          have h1 : Below w.heap.size w (wr.alloc (.cells (clE ⟨1, x, 0, 0, 0⟩).toArray 34)) := HB.out.alloc HB.out.size _
          exact h1.grown HG5.out (by simp; have := HB.out.size; omega) (fun r e => (HO.out.lt r e).1)
        case measure => simp [intOf]; omega
      · obtain rfl : k = N := by omega
        first
          | (have tk : ¬ (k : Int) < n := by omega
             clear hN
             go_wp2_with fail)
          | (have tk : ¬ (k : Int) < 4096 := by omega
             clear hN
             go_wp2_with fail)
        go_ret
        exact ⟨_, rfl, HO.out, HB.out⟩
end Go.Proofs.Ytogplndhciaoeaa
