/- The document's Without of layer 5. -/
import Derived.Test.YtlgdeadghmbfmaaRg
namespace Go.Proofs.Ytlgdeadghmbfmaa
open Go.RowKit

/-- append onto a row of the call's own: the run. -/
theorem run_app_ints {w : World} (ty : TypeId) (B : Nat) (v : Value) (l : List Int) (hown : Mine B v l w) (ad : Option Addr) (m cap : Nat) (z : Nat → Int) (hnil : ad = none → cap = 0) (hmc : m ≤ cap) (hI : IntsIn w ad m z) (hm : m ≤ 10000) (hl : l.length ≤ 10000) (hB : B ≤ w.heap.size) :
    ∃ v' w', (Builtin.append_ #[27, 27] ty #[v, .slice ad m cap]).run Try.prog w = .ok v' w' ∧ AppP B v (l ++ zs z m) w v' w' := by
  obtain ⟨i0, hi0, hz0, hz1, hz2⟩ := info_parts infoInt
  rcases ad with _ | ad
  · obtain rfl : cap = 0 := hnil rfl
    obtain rfl : m = 0 := by omega
    refine ⟨v, w, run_append_owned_none (P := Try.prog) (w := w) B 27 ty 3 i0 1 Try.underlying27 hi0 v l.length (intC l) hown, ?_, Below.refl _ _, World.grownBy.refl w _⟩
    simpa [zs] using hown
  · have hn : ∀ j u, (intC (zs z m))[j]? = some u → w.cell? (ad.add j) = some u := by
      intro j u hu
      have hj : j < m := by
        have := (List.getElem?_eq_some_iff.1 hu).1
        rwa [intC_length, zs_length] at this
      obtain ⟨b, off, e, _, hc⟩ := hI j hj
      cases e
      have hadd : (⟨b, off, none⟩ : Addr).add j = ⟨b, off + j, none⟩ := by unfold Addr.add; split <;> simp_all
      rw [hadd, hc, ← hu]
      simp [intC, zs, hj]
    obtain ⟨v', w', hr, own, g, _, _⟩ := run_append_own_at (P := Try.prog) w B 27 ty 3 i0 (.int .i64 0) 1 8 Try.underlying27 hi0 hz0 hz1 hz2 rfl (by decide) v l.length (intC l) hown ad m cap (intC (zs z m)) (by rw [intC_length, zs_length, Nat.mul_one]) hn intC_one (by unfold maxLen; omega) (by omega) hB
    refine ⟨v', w', hr, ?_, (Below.refl _ _).grown g hB (fun k hk => (hown.lt k hk).1), g⟩
    unfold Mine
    rw [List.length_append, zs_length, show intC (l ++ zs z m) = intC l ++ intC (zs z m) by simp [intC]]
    exact own
theorem Mine.drew {B : Nat} {v : Value} {l : List Int} {w : World} (h : Mine B v l w) : Mine B v l w.drew := by
  unfold Mine World.ownsRow at *; exact h
theorem IntsIn.drew {w : World} {A : Option Addr} {len : Nat} {z : Nat → Int} (h : IntsIn w A len z) : IntsIn w.drew A len z := h
/-- append, as a step of a region that draws its order. -/
theorem step_app_ints {ops : Array Oper} {o : Oper} {a : Act} {w : World} {K : Act → World → Prop} {Q : Exit → Act → World → Prop} {E : Prop} (hgd : o.guard = none) (s x : Operand) (ho : o.op = .call { callee := .builtin .append, args := #[s, x], argTypes := #[27, 27] })
    (B : Nat) (v : Value) (l : List Int) (hs : a.eval s = v) (hown : Mine B v l w) (ad : Option Addr) (m cap : Nat) (z : Nat → Int) (hx : a.eval x = .slice ad m cap) (hnil : ad = none → cap = 0) (hmc : m ≤ cap) (hI : IntsIn w ad m z) (hm : m ≤ 10000) (hl : l.length ≤ 10000) (hB : B ≤ w.heap.size)
    (h : ∀ v' w', AppP B v (l ++ zs z m) w v' w' → K (a.put o.dst v') w') : if Region.wanted o (yielded ops a.tmps) = true then Oper.wp Try.prog o a w K Q else E := by
  rw [if_pos (by simp [Region.wanted, hgd])]
  obtain ⟨v', w', hr, hA⟩ := run_app_ints o.type B v l hown ad m cap z hnil hmc hI hm hl hB
  unfold Oper.wp
  simp [execOp, ho, resolve, invoke, builtin, hs, hx, hr, Result.andThen]
  exact h v' w' hA
set_option maxRecDepth 100000 in
set_option maxHeartbeats 4000000 in
theorem refWithout_any (A : Option Addr) (len cap : Nat) (z : Nat → Int) (i : Nat) (w : World) (h : SL w A len cap z) (hi : i < len) (hl : len ≤ 4096) :
    Calls Try.prog 56 #[.slice A len cap, .int .i64 i] w (NewP (wo (zs z len) i) w) := by
  have hlc : len ≤ cap := h.1
  have HI := Lib.hid h.ints
  obtain ⟨_, ⟨_, h⟩ | ⟨g, rfl, hg, hc⟩⟩ := h
  · omega
  have HM := Lib.hid (mine_lit w)
  have i0 : (0 : Int) ≤ (i : Int) := by omega
  have i1 : (i : Int) ≤ (cap : Int) := by omega
  have i2 : (i : Int) + 1 ≤ (len : Int) := by omega
  have i3 : (len : Int) ≤ (cap : Int) := by omega
  have i4 : (0 : Int) ≤ (i : Int) + 1 := by omega
  have i5 : IntKind.i64.wrap ((i : Int) + 1) = (i : Int) + 1 := IntWalk.i64_in _ (by omega)
  have i6 : ((i : Int) + 1).toNat = i + 1 := by omega
  clear hc
  have HI1 : Hid (IntsIn (w.alloc (.cells #[] 3)).drew (some ⟨g, 0, none⟩) i z) := ((HI.out.below ((Below.refl _ _).alloc (Nat.le_refl _) _)).less (by omega)).drew
  have HB1 : Hid (Below w.heap.size w (w.alloc (.cells #[] 3)).drew) := ((Below.refl _ _).alloc (Nat.le_refl _) _).drew
  have HS1 : Hid (w.heap.size ≤ (w.alloc (.cells #[] 3)).drew.heap.size) := HB1.out.size
  by_cases hne : cap = i + 1
  · obtain rfl : len = i + 1 := by omega
    subst hne
    have i7 : (i : Int) ≤ (i : Int) + 1 := by omega
    go_enter Try.func56, Try.ntmps56
    go_wp2_with fail
    go_region_law (first
      | (refine step_app_ints rfl (.tmp 5) (.tmp 8) rfl w.heap.size (.slice (some ⟨w.heap.size, 0, none⟩) 0 0) [] (by rfl) HM.out.drew (some ⟨g, 0, none⟩) i _ z (by rfl) (fun e => by cases e) (by omega) HI1.out (by omega) (by simp) HS1.out ?_
         intro v1 w1 h1; have H1 := Lib.hid h1; have B1 := Lib.hid (HB1.out.trans h1.2.1); clear h1)
      | (refine step_app_ints rfl (.tmp 9) (.tmp 13) rfl w.heap.size v1 (zs z i) (by rfl) H1.out.1 (some ⟨g, 0, none⟩) 0 0 (fun j => z (j + (i + 1))) (by rfl) (fun e => by cases e) (by omega) (fun j hj => absurd hj (by omega)) (by omega) (by rw [zs_length]; omega) B1.out.size ?_
         intro v2 w2 h2; have H2 := Lib.hid h2; have B2 := Lib.hid (B1.out.trans h2.2.1); clear h2))
    all_goals
      go_wp2
      go_ret
      refine ⟨v2, rfl, ?_, But.of_below B2.out⟩
      have := H2.out.1
      rw [show wo (zs z (i + 1)) i = zs z i ++ zs (fun j => z (j + (i + 1))) (i + 1 - (i + 1)) by unfold wo; rw [zs_take z (by omega), zs_drop]]
      rw [Nat.sub_self]; exact this
  · have hne2 : ¬ cap - (i + 1) = 0 := by omega
    go_enter Try.func56, Try.ntmps56
    go_wp2_with fail
    go_region_law (first
      | (refine step_app_ints rfl (.tmp 5) (.tmp 8) rfl w.heap.size (.slice (some ⟨w.heap.size, 0, none⟩) 0 0) [] (by rfl) HM.out.drew (some ⟨g, 0, none⟩) i _ z (by rfl) (fun e => by cases e) (by omega) HI1.out (by omega) (by simp) HS1.out ?_
         intro v1 w1 h1; have H1 := Lib.hid h1; have B1 := Lib.hid (HB1.out.trans h1.2.1); clear h1)
      | (refine step_app_ints rfl (.tmp 9) (.tmp 13) rfl w.heap.size v1 (zs z i) (by rfl) H1.out.1 (some ⟨g, i + 1, none⟩) (len - (i + 1)) (cap - (i + 1)) (fun j => z (j + (i + 1))) (by rfl) (fun e => by cases e) (by omega) (by have := (HI.out.below B1.out).drop (i + 1); rwa [Nat.zero_add] at this) (by omega) (by rw [zs_length]; omega) B1.out.size ?_
         intro v2 w2 h2; have H2 := Lib.hid h2; have B2 := Lib.hid (B1.out.trans h2.2.1); clear h2))
    all_goals
      go_wp2
      go_ret
      refine ⟨v2, rfl, ?_, But.of_below B2.out⟩
      have := H2.out.1
      rw [show wo (zs z len) i = zs z i ++ zs (fun j => z (j + (i + 1))) (len - (i + 1)) by unfold wo; rw [zs_take z (by omega), zs_drop]]
      exact this
end Go.Proofs.Ytlgdeadghmbfmaa
