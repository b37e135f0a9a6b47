/- Locks, as the laws see them: Owned (layer 14). -/
import Derived.Test.YtdomgipbadimmaaC8
namespace Go.Proofs.Ytdomgipbadimmaa
open Go.RowKit
set_option maxRecDepth 100000

theorem app_one {ops : Array Oper} {rest : List Oper} {o : Oper} {a : Act} {W : World} {Q : Exit → Act → World → Prop} (hgd : o.guard = none) (s x : Operand) (ho : o.op = .call { callee := .builtin .append, args := #[s, x], argTypes := #[55, 55] })
    (B : Nat) (v : Value) (L : List Int) (hs : a.eval s = v) (hown : MineN B v L W) (g1 : Nat) (y : Int) (hx : a.eval x = .slice (some ⟨g1, 0, none⟩) 1 1) (hb : W.cell? ⟨g1, 0, none⟩ = some (.int .i64 y)) (hl : L.length ≤ 10000) (hB : B ≤ W.heap.size)
    (h : ∀ v' w', MineN B v' (L ++ [y]) w' → Below B W w' → wpList Try.prog ops Q rest (a.put o.dst v') w') : wpList Try.prog ops Q (o :: rest) a W := by
  obtain ⟨i0, hi0, hz0, hz1, hz2⟩ := info_parts infoInt
  refine wpList_append_own W hgd s x 55 ho B 3 i0 _ 1 8 Try.underlying55 hi0 hz0 hz1 hz2 rfl (by decide) _ L.length (numC L) hs hown ⟨g1, 0, none⟩ 1 1 (numC [y]) hx (by simp [numC]) ?_ (by intro u hu; simp [numC] at hu; rcases hu with rfl; rfl) (by unfold maxLen; omega) (by omega) hB ?_
  · intro j u hu
    match j, hu with
    | 0, hu =>
      have hadd : (⟨g1, 0, none⟩ : Addr).add 0 = ⟨g1, 0, none⟩ := by unfold Addr.add; split <;> simp_all
      rw [hadd, hb]; simpa [numC] using hu
    | j + 1, hu => simp [numC] at hu
  · intro v' w' own gr _
    refine h v' w' ?_ ((Below.refl _ _).grown gr hB (fun k hk => (hown.lt k hk).1))
    unfold MineN
    rw [List.length_append, show numC (L ++ [y]) = numC L ++ numC [y] by simp [numC]]
    exact own
/-- The locks that a task has, of the first n. -/
def ownAt (t : Int) (ks : List Coh) (i : Nat) : Bool := match ks[i]? with | some c => isOfC c t | none => false
def ownedL (t : Int) (ks : List Coh) (n : Nat) : List Int := ((List.range n).filter fun i => ownAt t ks i).map fun i => ((i : Nat) : Int)
theorem ownedL_succ (t : Int) (ks : List Coh) (n : Nat) : ownedL t ks (n + 1) = ownedL t ks n ++ (if ownAt t ks n then [(n : Int)] else []) := by
  unfold ownedL
  rw [List.range_succ, List.filter_append, List.map_append]
  congr 1
  cases h : ownAt t ks n <;> simp [h]
theorem ownedL_len (t : Int) (ks : List Coh) (n : Nat) : (ownedL t ks n).length ≤ n := by
  unfold ownedL; rw [List.length_map]
  exact Nat.le_trans (List.length_filter_le _ _) (by simp)
section
variable {B : Nat → Prop} {pb lb : Nat} {lab : Nat → LabC} {ks : List Coh} {w : World}
set_option maxHeartbeats 2000000 in
theorem ownedL_any (h : CohL B pb lb lab ks w) (hk : ks.length ≤ 1000) (t : Int) : Calls Try.prog 23 #[.pointer (some ⟨pb, 0, none⟩), .int .i64 t] w fun e w' => ∃ v, e = .returned v ∧ MineN w.heap.size v (ownedL t ks ks.length) w' ∧ Below w.heap.size w w' := by
  have P := Lib.hid (len_any h)
  have HH := Lib.hid h
  obtain ⟨n, hn⟩ : ∃ n, ks.length = n := ⟨_, rfl⟩
  rw [hn] at P hk ⊢
  have HN := Lib.hid hn
  clear h hn
  go_enter Try.func23, Try.ntmps23
  go_wp2_with (go_at_call 22; (with_reducible refine P.out.mono ?_); rintro e w2 ⟨rfl, rfl⟩)
  clear P
  go_loopw [5, 9] (fun tv iv wr => ∃ (k : Nat) (v : Value), v = tv ∧ iv = .int .i64 k ∧ k ≤ n ∧ MineN w.heap.size v (ownedL t ks k) wr ∧ Below w.heap.size w wr) (fun _ iv _ => n - (intOf iv).toNat)
  case atStart => exact ⟨0, _, rfl, rfl, Nat.zero_le _, mineN_nil _ _, Below.refl _ _⟩
  case round =>
    obtain ⟨k, v, rfl, rfl, hkn, hown, hb⟩ := hrel
    by_cases hlt : k < n
    · obtain ⟨c, hc⟩ : ∃ c, ks[k]? = some c := ⟨_, List.getElem?_eq_getElem (by rw [HN.out]; exact hlt)⟩
      have h' := HH.out.below hb
      obtain ⟨cs, rv, hl, -⟩ := h'.lock hc
      have PI := Lib.hid (isOf_any hl t)
      rw [Nat.mul_comm 4 k] at PI
      have d0 := h'.box.cell 0
      simp only [List.getElem?_toArray, List.getElem?_cons_zero] at d0
      rw [HN.out] at d0
      have HSU : Hid (ownedL t ks (k + 1) = ownedL t ks k ++ (if isOfC c t then [(k : Int)] else [])) := by
        show ownedL t ks (k + 1) = _
        rw [ownedL_succ]
        unfold ownAt; rw [hc]
      have hll := ownedL_len t ks k
      have HB := Lib.hid hb; have HO := Lib.hid hown; have HLT := Lib.hid hlt
      have k0 : (0 : Int) ≤ (k : Int) := by omega
      have k1 : (k : Int) < (n : Int) := by omega
      clear hb hown h' hl hc
      cases ho : isOfC c t with
      | false =>
        rw [ho] at PI HSU
        clear ho
        go_wp2_with (go_at_call 44; (with_reducible refine PI.out.mono ?_); rintro e w2 ⟨rfl, rfl⟩)
        go_roundw
        case rel => exact ⟨k + 1, v, rfl, by go_num, by have := HLT.out; omega, by rw [HSU.out]; simpa using HO.out, HB.out⟩
        case measure => have := HLT.out; simp [intOf]; omega
      | true =>
        rw [ho] at PI HSU
        clear ho
        have ha : Below wr.heap.size wr (wr.alloc (.cells #[.int .i64 k] 3)) := (Below.refl _ _).alloc (Nat.le_refl _) _
        have HM8 := Lib.hid (HO.out.on ha)
        have HB8 := Lib.hid (HB.out.trans (ha.mono HB.out.size))
        have hbs := (Blk.new wr 3 #[.int .i64 k]).cell 0
        simp only [List.getElem?_toArray, List.getElem?_cons_zero] at hbs
        have HBS := Lib.hid hbs
        clear ha hbs
        go_wp2_with (first
          | (go_at_call 44; (with_reducible refine PI.out.mono ?_); rintro e w2 ⟨rfl, rfl⟩)
          | (at_builtin; refine haltC ?_))
        refine Lib.hid ?_
        refine app_one rfl (.tmp 20) (.tmp 22) rfl w.heap.size v (ownedL t ks k) rfl HM8.out _ k rfl HBS.out (by omega) HB8.out.size ?_
        intro v' w9 own9 b9
        have HM9 : Hid (MineN w.heap.size v' (ownedL t ks (k + 1)) w9) := by
          show MineN _ _ _ _
          rw [HSU.out]; exact own9
        have HB9 := Lib.hid (HB8.out.trans b9)
        clear own9 b9 HM8 HB8 HBS PI
        go_wp2_with fail
        go_roundw
        case rel => exact ⟨k + 1, v', rfl, by go_num, by have := HLT.out; omega, HM9.out, HB9.out⟩
        case measure => have := HLT.out; simp [intOf]; omega
    · have hkm : k = n := by omega
      have tt : ¬ (k : Int) < (n : Int) := by omega
      have HB := Lib.hid hb; have HO := Lib.hid hown
      clear hb hown
      go_wp2_with fail
      go_ret
      subst hkm
      exact ⟨_, rfl, HO.out, HB.out⟩
end
end Go.Proofs.Ytdomgipbadimmaa
