/- The document's Runs, with, owned (layer 19): printed by wip/src19/gen_ma.py. -/
import Derived.Test.YtilaalleiiakoaaDoorKt
import Derived.Test.YtilaalleiiakoaaDoorSm
import Derived.Deep.AppendLies
namespace Go.Proofs.YtilaalleiiakoaaDoor
open Go.RowKit
set_option maxRecDepth 100000

section
variable {w : World} {F O : Value} {ts : List FT} {ow : List Int} {p : Nat → Bool} {t : Int}
set_option maxHeartbeats 4000000 in
theorem runs_any (h : InF w F O ts ow) (hl : ts.length ≤ 1000) (cpu : Int) : Calls Tryd.prog 20 #[flV F O p t, .int .i64 cpu] w (GotB w.heap.size (.bool (busyP ts cpu)) w) := by
  obtain ⟨⟨A, c, rfl, hT⟩, -⟩ := h
  have hbf : BF (w.alloc (.cells (flL (.slice A ts.length c) O p t).toArray 30)) w.heap.size (.slice A ts.length c) O p t := Blk.new w _ _
  have hbl : Below w.heap.size w (w.alloc (.cells (flL (.slice A ts.length c) O p t).toArray 30)) := (Below.refl _ _).alloc (Nat.le_refl _) _
  have HT := Lib.hid hT
  obtain ⟨R, hR⟩ : ∃ R, busyP ts cpu = R := ⟨_, rfl⟩
  have HR := Lib.hid hR
  obtain ⟨n, hn⟩ : ∃ n, ts.length = n := ⟨_, rfl⟩
  have HN := Lib.hid hn
  rw [hn] at hbf hbl hl
  rw [hR, hn]
  clear hT hR hn
  go_enter Tryd.func20, Tryd.ntmps20
  go_upto_region 1 with fail
  generalize w.alloc (.cells (flL (.slice A n c) O p t).toArray 30) = W at *
  have c0 := BF.c0 hbf
  have HB := Lib.hid hbl
  clear hbf hbl
  go_wp2_with fail
  clear c0
  go_loopw [10] (fun iv wr => ∃ k : Nat, iv = .int .i64 k ∧ k ≤ n ∧ Below w.heap.size w wr ∧ busyP (ts.drop k) cpu = R) (fun iv _ => n - (intOf iv).toNat)
  case atStart => exact ⟨0, rfl, Nat.zero_le _, HB.out, by rw [List.drop_zero]; exact HR.out⟩
  case round =>
    obtain ⟨k, rfl, hk, hb, hr⟩ := hrel
    have HBB := Lib.hid hb
    by_cases hlt : k < n
    · obtain ⟨x, hx⟩ : ∃ x, ts[k]? = some x := ⟨_, List.getElem?_eq_getElem (by rw [HN.out]; exact hlt)⟩
      have hd : ts.drop k = x :: ts.drop (k + 1) := by
        have hkl := (List.getElem?_eq_some_iff.1 hx).1
        rw [List.drop_eq_getElem_cons hkl]
        congr 1
        rw [List.getElem?_eq_getElem hkl] at hx; simpa using hx
      rw [hd] at hr
      obtain ⟨g, off, rfl, -, hrow⟩ := (HT.out.below hb) k x hx
      obtain ⟨d0, d1, d2, d3, d4, d5, d6, d7⟩ := task_cells hrow
      have k0 : (0 : Int) ≤ (k : Int) := by omega
      have k1 : (k : Int) < (n : Int) := by omega
      unfold busyP at hr
      rw [List.any_cons] at hr
      have HRR := Lib.hid hr
      obtain ⟨pg, pc, ⟨ra, rb, rc, rd⟩, st, on⟩ := x
      dsimp only at d0 d1 d2 d3 d4 d5 d6 d7 HRR
      have HAL := Lib.hid (HBB.out.alloc HBB.out.size (.cells #[.int .i64 pg, .int .i64 pc, .int .i32 ra, .int .i32 rb, .int .i32 rc, .int .i32 rd, .int .i64 st, .int .i64 on] 45))
      clear hr hd hrow hx hb
      by_cases q : st = 2
      · subst q
        by_cases q2 : on = cpu
        · subst q2
          have t1 : (on == on) = true := by simp
          have e : R = true := by rw [← HRR.out]; simp
          subst e
          go_wp2_with fail
          go_ret
          exact ⟨rfl, HAL.out⟩
        · have t1 : (on == cpu) = false := by simpa using q2
          have HNX : Hid (busyP (ts.drop (k + 1)) cpu = R) := by
            have := HRR.out
            rw [show decide (on = cpu) = false by simpa using q2, Bool.and_false, Bool.false_or] at this
            exact this
          go_wp2_with fail
          go_roundw
          case rel => exact ⟨k + 1, by go_num, by omega, HAL.out, HNX.out⟩
          case measure => simp [intOf]; omega
      · have t1 : (st == 2) = false := by simpa using q
        have HNX : Hid (busyP (ts.drop (k + 1)) cpu = R) := by
          have := HRR.out
          rw [show decide (st = 2) = false by simpa using q, Bool.false_and, Bool.false_or] at this
          exact this
        go_wp2_with fail
        go_roundw
        case rel => exact ⟨k + 1, by go_num, by omega, HAL.out, HNX.out⟩
        case measure => simp [intOf]; omega
    · obtain rfl : k = n := by omega
      have tk : ¬ (k : Int) < (k : Int) := by omega
      rw [List.drop_of_length_le (by rw [HN.out]; exact Nat.le_refl _)] at hr
      have e : R = false := by rw [← hr]; rfl
      subst e
      clear hr hb
      go_wp2_with fail
      go_ret
      exact ⟨rfl, HBB.out⟩
end
/-- A whole task stored in its row. -/
theorem put_ts : ∀ (ts : List FT) (i : Nat) (x : FT), i < ts.length → putAll (tsC ts) (i * 8) (taskC x) = tsC (ts.set i x)
  | [], _, _, h => by simp at h
  | y :: t, 0, x, _ => by
    rw [Nat.zero_mul, tsC_cons, putAll_here _ _ _ (by rw [taskC_len, taskC_len]), List.set_cons_zero, tsC_cons]
  | y :: t, i + 1, x, h => by
    have ih := put_ts t i x (by simpa using h)
    rw [tsC_cons, List.set_cons_succ, tsC_cons, ← ih]
    have key : ∀ (us : List Value) (vs r : List Value) (o : Nat), putAll (us ++ r) (us.length + o) vs = us ++ putAll r o vs := by
      intro us
      induction us with
      | nil => intro vs r o; simp
      | cons u us ihu =>
        intro vs r o
        rw [List.cons_append, List.length_cons, show us.length + 1 + o = us.length + o + 1 by omega, putAll_cons, ihu]; rfl
    have := key (taskC y) (taskC x) (tsC t) (i * 8)
    rw [taskC_len] at this
    rw [show (i + 1) * 8 = 8 + i * 8 by omega]; exact this
theorem row_cells : ∀ (vs : List Value) (o : Nat) (w : World) (B g n cap : Nat) (xs : List Value), w.ownsRow B 45 8 (.slice (some ⟨g, 0, none⟩) n cap) n xs →
    (w.setCells g o vs).ownsRow B 45 8 (.slice (some ⟨g, 0, none⟩) n cap) n (putAll xs o vs) ∧ But (fun k => k = g) w (w.setCells g o vs)
  | [], _, w, _, _, _, _, _, h => ⟨h, But.refl _ _⟩
  | v :: r, o, w, B, g, n, cap, xs, h => by
    have h1 := (h.stored o v).1
    obtain ⟨h2, h3⟩ := row_cells r (o + 1) _ B g n cap _ h1
    exact ⟨h2, ((But.refl (fun k => k = g) w).set ⟨g, o, none⟩ v (.inl rfl)).trans h3⟩
theorem infoTaskZS : (Tryd.prog.info? 45).map (·.size) = some 8 := by kernel_rfl
/-- Whose rows lie where: those that are not empty. -/
def OwnX (F O : Value) (ts : List FT) (ow : List Int) (k : Nat) : Prop := (ts ≠ [] ∧ F.ownBlock = some k) ∨ (ow ≠ [] ∧ O.ownBlock = some k)
theorem InF.lt {w : World} {F O : Value} {ts : List FT} {ow : List Int} (h : InF w F O ts ow) {k : Nat} (hk : OwnX F O ts ow k) : k < w.heap.size := by
  obtain ⟨⟨A, c, rfl, hT⟩, A2, c2, rfl, hO⟩ := h
  rcases hk with ⟨z, hk⟩ | ⟨z, hk⟩
  · obtain ⟨x, r, rfl⟩ := List.exists_cons_of_ne_nil z
    obtain ⟨b, off, rfl, hb, -⟩ := hT 0 x rfl
    have : b = k := Option.some.inj hk
    omega
  · obtain ⟨x, r, rfl⟩ := List.exists_cons_of_ne_nil z
    obtain ⟨b, off, rfl, hb, -⟩ := hO 0 x rfl
    have : b = k := Option.some.inj hk
    omega
theorem InF.but {w w' : World} {F O : Value} {ts : List FT} {ow : List Int} {X : Nat → Prop} (h : InF w F O ts ow) (hb : But X w w') (hX : ∀ k, OwnX F O ts ow k → ¬ X k) : InF w' F O ts ow := by
  obtain ⟨⟨A, c, rfl, hT⟩, A2, c2, rfl, hO⟩ := h
  refine ⟨⟨A, c, rfl, fun i x hx => ?_⟩, A2, c2, rfl, fun i x hx => ?_⟩
  · obtain ⟨b, off, rfl, hlt, hr⟩ := hT i x hx
    have hn := hX b (.inl ⟨by rintro rfl; simp at hx, rfl⟩)
    exact ⟨b, off, rfl, Nat.lt_of_lt_of_le hlt hb.size, fun j u hu => (hb.cell0 hlt hn).trans (hr j u hu)⟩
  · obtain ⟨b, off, rfl, hlt, hr⟩ := hO i x hx
    have hn := hX b (.inr ⟨by rintro rfl; simp at hx, rfl⟩)
    exact ⟨b, off, rfl, Nat.lt_of_lt_of_le hlt hb.size, (hb.cell0 hlt hn).trans hr⟩
/-- A row's room is no less than its length. -/
def CapF (F : Value) (n : Nat) : Prop := ∀ A c, F = .slice A n c → n ≤ c
/-- A machine handed back whole, whose rows may be read: fresh ones, or the elder ones. -/
def WitG (w : World) (F O : Value) (ts0 : List FT) (ow0 : List Int) (p : Nat → Bool) (t : Int) (ts : List FT) (ow : List Int) (e : Ending) (w' : World) : Prop := ∃ F' O', e = .returned (flV F' O' p t) ∧ InF w' F' O' ts ow ∧ (∀ k, OwnX F' O' ts ow k → w.heap.size ≤ k ∨ OwnX F O ts0 ow0 k) ∧ (CapF F ts0.length → CapF F' ts.length) ∧ Below w.heap.size w w'
section
variable {w : World} {F O : Value} {ts : List FT} {ow : List Int} {p : Nat → Bool} {t : Int}
set_option maxHeartbeats 4000000 in
theorem with_any (h : InF w F O ts ow) (hl : ts.length ≤ 1000) (i : Nat) (hi : i < ts.length) (x : FT) : Calls Tryd.prog 23 #[flV F O p t, .int .i64 i, .agg (taskC x).toArray] w (WitG w F O ts ow p t (ts.set i x) ow) := by
  obtain ⟨⟨A, c, rfl, hT⟩, hO⟩ := h
  obtain ⟨y, hy⟩ : ∃ y, ts[i]? = some y := ⟨_, List.getElem?_eq_getElem hi⟩
  obtain ⟨bb, off, rfl, -, -⟩ := hT i y hy
  have oO : O.oneCell' = true := by obtain ⟨A2, c2, rfl, -⟩ := hO; rfl
  have HT := Lib.hid hT; have HO := Lib.hid hO
  have hbl : Below w.heap.size w (((w.alloc (.cells (flL (.slice (some ⟨bb, off, none⟩) ts.length c) O p t).toArray 30)).alloc (.cells (taskC x).toArray 45)).alloc (.cells #[.slice none 0 0, .int .u64 0, .int .u64 0, .int .u64 0, .int .u64 0, .int .u64 0, .int .u64 0, .int .u64 0, .int .u64 0, .int .u64 0, .int .u64 0, .int .u64 0, .int .u64 0, .int .u64 0, .int .u64 0, .int .u64 0, .int .u64 0, .slice none 0 0, .int .i64 0] 30)) := (((Below.refl _ _).alloc (Nat.le_refl _) _).alloc (by simp) _).alloc (by simp; omega) _
  have hbf : BF (((w.alloc (.cells (flL (.slice (some ⟨bb, off, none⟩) ts.length c) O p t).toArray 30)).alloc (.cells (taskC x).toArray 45)).alloc (.cells #[.slice none 0 0, .int .u64 0, .int .u64 0, .int .u64 0, .int .u64 0, .int .u64 0, .int .u64 0, .int .u64 0, .int .u64 0, .int .u64 0, .int .u64 0, .int .u64 0, .int .u64 0, .int .u64 0, .int .u64 0, .int .u64 0, .int .u64 0, .slice none 0 0, .int .i64 0] 30)) w.heap.size (.slice (some ⟨bb, off, none⟩) ts.length c) O p t := ((Blk.new w _ _).alloc _).alloc _
  have hbx : Blk (((w.alloc (.cells (flL (.slice (some ⟨bb, off, none⟩) ts.length c) O p t).toArray 30)).alloc (.cells (taskC x).toArray 45)).alloc (.cells #[.slice none 0 0, .int .u64 0, .int .u64 0, .int .u64 0, .int .u64 0, .int .u64 0, .int .u64 0, .int .u64 0, .int .u64 0, .int .u64 0, .int .u64 0, .int .u64 0, .int .u64 0, .int .u64 0, .int .u64 0, .int .u64 0, .int .u64 0, .slice none 0 0, .int .i64 0] 30)) (w.heap.size + 1) 45 (taskC x).toArray := by
    have := Blk.new (w.alloc (.cells (flL (.slice (some ⟨bb, off, none⟩) ts.length c) O p t).toArray 30)) 45 (taskC x).toArray
    refine Blk.alloc ?_ _
    simpa using this
  have hbr : ∃ old, Blk (((w.alloc (.cells (flL (.slice (some ⟨bb, off, none⟩) ts.length c) O p t).toArray 30)).alloc (.cells (taskC x).toArray 45)).alloc (.cells #[.slice none 0 0, .int .u64 0, .int .u64 0, .int .u64 0, .int .u64 0, .int .u64 0, .int .u64 0, .int .u64 0, .int .u64 0, .int .u64 0, .int .u64 0, .int .u64 0, .int .u64 0, .int .u64 0, .int .u64 0, .int .u64 0, .int .u64 0, .slice none 0 0, .int .i64 0] 30)) (w.heap.size + 1 + 1) 30 old ∧ old.size = 19 := ⟨#[.slice none 0 0, .int .u64 0, .int .u64 0, .int .u64 0, .int .u64 0, .int .u64 0, .int .u64 0, .int .u64 0, .int .u64 0, .int .u64 0, .int .u64 0, .int .u64 0, .int .u64 0, .int .u64 0, .int .u64 0, .int .u64 0, .int .u64 0, .slice none 0 0, .int .i64 0], by
    have := Blk.new ((w.alloc (.cells (flL (.slice (some ⟨bb, off, none⟩) ts.length c) O p t).toArray 30)).alloc (.cells (taskC x).toArray 45)) 30 #[.slice none 0 0, .int .u64 0, .int .u64 0, .int .u64 0, .int .u64 0, .int .u64 0, .int .u64 0, .int .u64 0, .int .u64 0, .int .u64 0, .int .u64 0, .int .u64 0, .int .u64 0, .int .u64 0, .int .u64 0, .int .u64 0, .int .u64 0, .slice none 0 0, .int .i64 0]
    simpa using this, rfl⟩
  obtain ⟨C, hC⟩ : ∃ C, taskC x = C := ⟨_, rfl⟩
  have HCC := Lib.hid hC
  rw [hC] at hbl hbf hbx hbr ⊢
  obtain ⟨n, hn⟩ : ∃ n, ts.length = n := ⟨_, rfl⟩
  have HN := Lib.hid hn
  rw [hn] at hbl hbf hbx hbr hi hl ⊢
  clear hT hO hC hn hy
  go_enter Tryd.func23, Tryd.ntmps23
  go_upto_region 1 with fail
  generalize ((w.alloc (.cells (flL (.slice (some ⟨bb, off, none⟩) n c) O p t).toArray 30)).alloc (.cells C.toArray 45)).alloc (.cells #[.slice none 0 0, .int .u64 0, .int .u64 0, .int .u64 0, .int .u64 0, .int .u64 0, .int .u64 0, .int .u64 0, .int .u64 0, .int .u64 0, .int .u64 0, .int .u64 0, .int .u64 0, .int .u64 0, .int .u64 0, .int .u64 0, .int .u64 0, .slice none 0 0, .int .i64 0] 30) = W at *
  obtain ⟨old, hbr, hold⟩ := hbr
  have HBL := Lib.hid hbl; have HBF := Lib.hid hbf; have HBX := Lib.hid hbx; have HBR := Lib.hid hbr; have HOL := Lib.hid hold
  clear hbl hbf hbx hbr hold
  obtain ⟨i0, hi0, hz0, hz1, hz2⟩ := info_parts infoTaskZ
  have hal : Below W.heap.size W (W.alloc (.cells #[] 45)) := (Below.refl _ _).alloc (Nat.le_refl _) _
  have HAL := Lib.hid hal
  have c0 : (W.alloc (.cells #[] 45)).cell? ⟨w.heap.size, 0, none⟩ = some (.slice (some ⟨bb, off, none⟩) n c) := BF.c0 (Blk.alloc HBF.out _)
  have HTF : Hid (∀ j u, (tsC ts)[j]? = some u → (W.alloc (.cells #[] 45)).cell? ((⟨bb, off, none⟩ : Addr).add j) = some u) := fun j u hu => by
    obtain ⟨b', o', e, hc⟩ := ((HT.out.below HBL.out).below hal).flat j u hu
    simp only [Option.some.injEq, Addr.mk.injEq, and_true] at e
    obtain ⟨rfl, rfl⟩ := e
    rw [Addr.add_mid]; exact hc
  have HTL : Hid ((tsC ts).length = n * 8) := by show _ = _; rw [tsC_len, HN.out]
  clear hal
  go_upto_region 2 with (first
    | (at_builtin; go_loud (refine wpList_append_own _ rfl _ _ 27 rfl W.heap.size 45 i0 _ 8 48 Tryd.underlying27 hi0 hz0 hz1 hz2 rfl (by decide) _ 0 [] rfl (World.ownsRow_made W #[] 0 (Nat.le_refl _) (Nat.zero_le _) rfl) ⟨bb, off, none⟩ n c (tsC ts) rfl HTL.out HTF.out tsC_mem (by unfold maxLen; omega) (by omega) (by simp) ?_); intro v' w1 hown hgrow hnil; obtain ⟨g5, k5, rfl⟩ : ∃ g5 k5, v' = .slice (some ⟨g5, 0, none⟩) (0 + n) k5 := (rowForm hown).resolve_left (fun z => by have := z.2; omega); have HW := Lib.hid hown; have hb1 := HAL.out.grown hgrow (by simp) (fun k hk => by have h9 : W.heap.size = k := Option.some.inj hk; omega); have HB1 := Lib.hid hb1; have hbf1 := Blk.below HBF.out hb1 (Blk.lt HBF.out); have cc1 := BF.c0 hbf1; have ff1 := BF.free hbf1 0; have HBF1 := Lib.hid hbf1; clear hown hgrow hnil hb1 hbf1))
  rw [Nat.zero_add] at *
  have hq5 : W.heap.size ≤ g5 := (HW.out.lt g5 rfl).1
  have HQ : Hid (w.heap.size ≠ g5 ∧ w.heap.size + 1 ≠ g5 ∧ w.heap.size + 1 + 1 ≠ g5 ∧ w.heap.size ≤ g5) := by have := HBR.out.lt; exact ⟨by omega, by omega, by omega, by omega⟩
  have hs0 : But (fun k => k = w.heap.size) w1 (w1.setCell ⟨w.heap.size, 0, none⟩ (.slice (some ⟨g5, 0, none⟩) n k5)) := (But.refl (fun k => k = w.heap.size) w1).set _ _ (.inl rfl)
  have hbf2 : BF (w1.setCell ⟨w.heap.size, 0, none⟩ (.slice (some ⟨g5, 0, none⟩) n k5)) w.heap.size (.slice (some ⟨g5, 0, none⟩) n k5) O p t := by
    have := HBF1.out.set_ 0 (.slice (some ⟨g5, 0, none⟩) n k5)
    rw [List.setIfInBounds_toArray, flL_set0] at this
    exact this
  have hbx2 : Blk (w1.setCell ⟨w.heap.size, 0, none⟩ (.slice (some ⟨g5, 0, none⟩) n k5)) (w.heap.size + 1) 45 C.toArray := (HBX.out.below HB1.out HBX.out.lt).far (by simp) _
  have hbr2 : Blk (w1.setCell ⟨w.heap.size, 0, none⟩ (.slice (some ⟨g5, 0, none⟩) n k5)) (w.heap.size + 1 + 1) 30 old := (HBR.out.below HB1.out HBR.out.lt).far (by simp; omega) _
  have how2 : (w1.setCell ⟨w.heap.size, 0, none⟩ (.slice (some ⟨g5, 0, none⟩) n k5)).ownsRow W.heap.size 45 8 (.slice (some ⟨g5, 0, none⟩) n k5) n (tsC ts) := by
    have := HW.out
    rw [List.nil_append] at this
    exact row_but this hs0 fun k hk q => by have h9 : g5 = k := Option.some.inj hk; have := HQ.out; omega
  have hbl2 : Below w.heap.size w (w1.setCell ⟨w.heap.size, 0, none⟩ (.slice (some ⟨g5, 0, none⟩) n k5)) := ((But.of_below (X := fun k => w.heap.size ≤ k) (HBL.out.trans (HB1.out.mono HBL.out.size))).set _ _ (.inr (Nat.le_refl _))).below (Nat.le_refl _) fun k _ q => q
  have HBF2 := Lib.hid hbf2; have HBX2 := Lib.hid hbx2; have HBR2 := Lib.hid hbr2; have HOW2 := Lib.hid how2; have HBL2 := Lib.hid hbl2
  generalize w1.setCell ⟨w.heap.size, 0, none⟩ (.slice (some ⟨g5, 0, none⟩) n k5) = W2 at *
  clear hbf2 hbx2 hbr2 how2 hbl2 hs0 HBF1 HBX HBR HW HB1 HAL HTF HTL HBF c0
  have c2 := BF.c0 HBF2.out
  have HXR : Hid (W2.rangeAt (w.heap.size + 1) 0 C) := fun j u hj => by rw [Nat.zero_add, HBX2.out.cell, List.getElem?_toArray]; exact hj
  have HCL : Hid (C.length = 8) := by show _ = _; rw [← HCC.out]; rfl
  have HIC : Hid ((Tryd.prog.info? 45).map (·.size) = some C.length) := by show _ = _; rw [HCL.out, infoTaskZS]
  have HIC2 : Hid ((Tryd.prog.info? 45).map (·.size) = some C.toArray.size) := by show _ = _; rw [List.size_toArray, HCL.out, infoTaskZS]
  have HTH : Hid (W2.there g5 (i * 8) C.toArray.size) := fun j hj => by
    rw [List.size_toArray, HCL.out] at hj
    refine ⟨?_, HOW2.out.frozenAt _⟩
    rw [HOW2.out.cellAt (i * 8 + j) (by omega), List.getElem?_eq_getElem (by rw [tsC_len, HN.out]; omega)]; rfl
  have HC1 : Hid (C.toArray.all (·.oneCell') = true) := by show _ = _; rw [← HCC.out]; exact all_oneCell_toArray (taskC_one x)
  have i0' : (0 : Int) ≤ (i : Int) := by omega
  have i1 : (i : Int) < (n : Int) := by omega
  go_upto_region 3 with (first
    | (with_reducible (show wpList _ _ _ _ _ _); refine wpList_load_mid rfl 45 (.tmp 5) rfl (w.heap.size + 1) 0 rfl C _ HXR.out Tryd.underlying45 rfl HIC.out ?_)
    | (with_reducible (show wpList _ _ _ _ _ _); refine wpList_store_mid rfl 45 (.tmp 16) (.tmp 15) rfl g5 (i * 8) C.toArray rfl rfl HTH.out HIC2.out HC1.out ?_))
  obtain ⟨hr, hb3⟩ := row_cells C (i * 8) W2 W.heap.size g5 n k5 (tsC ts) HOW2.out
  rw [← HCC.out, put_ts ts i x (by rw [HN.out]; exact hi), HCC.out] at hr
  have HR3 := Lib.hid hr; have HB3 := Lib.hid hb3
  have HBF3 : Hid (BF (W2.setCells g5 (i * 8) C) w.heap.size (.slice (some ⟨g5, 0, none⟩) n k5) O p t) := Blk.but HBF2.out hb3 HQ.out.1
  have HBR3 : Hid (Blk (W2.setCells g5 (i * 8) C) (w.heap.size + 1 + 1) 30 old) := HBR2.out.but hb3 HQ.out.2.2.1
  clear hr hb3 c2
  generalize W2.setCells g5 (i * 8) C = W3 at *
  go_wp2_with (first
    | (with_reducible (show wpList _ _ _ _ _ _); refine ld_flat rfl (.tmp 3) rfl w.heap.size rfl HBF3.out ?_)
    | (with_reducible (show wpList _ _ _ _ _ _); refine st_flat rfl (.tmp 6) (.tmp 17) rfl (w.heap.size + 1 + 1) rfl rfl rfl oO old HBR3.out HOL.out ?_))
  refine ret_flat1 rfl (w.heap.size + 1 + 1) rfl (BF.row HBR3.out) rfl ?_
  have hBW : Below w.heap.size w (W3.setRow (w.heap.size + 1 + 1) (flL (.slice (some ⟨g5, 0, none⟩) n k5) O p t).toArray) :=
    (((But.of_below (X := fun k => w.heap.size ≤ k) HBL2.out).trans (HB3.out.mono fun k _ q => by rw [q]; exact HQ.out.2.2.2)).row _ _ (.inr (by omega))).below (Nat.le_refl _) fun k _ q => q
  refine ⟨_, O, rfl, ⟨?_, (InF.below (F := .slice none 0 0) (ts := []) ⟨⟨none, 0, rfl, fun _ _ h => by simp at h⟩, HO.out⟩ hBW).ow⟩, fun k hk => ?_, fun _ A' c' q => ?_, hBW⟩
  have hrow : OwnF W3 W.heap.size (.slice (some ⟨g5, 0, none⟩) n k5) (.slice none 0 0) (ts.set i x) [] := ⟨by rw [List.length_set, HN.out]; exact HR3.out, World.ownsRow_nil _ _ _ _⟩
  have hrow2 := hrow.row (w.heap.size + 1 + 1) (flL (.slice (some ⟨g5, 0, none⟩) n k5) O p t).toArray fun k hk q => by
    rcases hk with z | z
    · have h9 : g5 = k := Option.some.inj z
      exact HQ.out.2.2.1 (by omega)
    · cases z
  · exact own_tsIn hrow2.tk
  · rcases hk with ⟨-, z⟩ | z
    · have h9 : g5 = k := Option.some.inj z
      exact .inl (by have := HQ.out.2.2.2; omega)
    · exact .inr (.inr z)
  · simp only [Value.slice.injEq] at q
    have hlen : (ts.set i x).length = n := by rw [List.length_set, HN.out]
    rcases HR3.out.2 with ⟨e, -⟩ | ⟨b0, cap, cur, e, _, _, q2, _⟩
    · simp at e
    · simp only [Value.slice.injEq] at e; omega
end

set_option maxRecDepth 100000

theorem numC_one (l : List Int) : ∀ v ∈ numC l, v.oneCell' = true := fun v hv => by
  unfold numC at hv
  obtain ⟨x, -, rfl⟩ := List.mem_map.1 hv
  rfl
theorem row_cells1 {w : World} {B g n cap : Nat} {ow : List Int} (i : Nat) (x : Int) (h : w.ownsRow B 3 1 (.slice (some ⟨g, 0, none⟩) n cap) n (numC ow)) :
    (w.setCell ⟨g, i, none⟩ (.int .i64 x)).ownsRow B 3 1 (.slice (some ⟨g, 0, none⟩) n cap) n (numC (ow.set i x)) ∧ But (fun k => k = g) w (w.setCell ⟨g, i, none⟩ (.int .i64 x)) := by
  have h1 := (h.stored i (.int .i64 x)).1
  rw [show (numC ow).set i (.int .i64 x) = numC (ow.set i x) by simp [numC]] at h1
  exact ⟨h1, (But.refl (fun k => k = g) w).set _ _ (.inl rfl)⟩
section
variable {w : World} {F O : Value} {ts : List FT} {ow : List Int} {p : Nat → Bool} {t : Int}
set_option maxHeartbeats 4000000 in
theorem owned_any (h : InF w F O ts ow) (hl : ow.length ≤ 1000) (i : Nat) (hi : i < ow.length) (x : Int) : Calls Tryd.prog 22 #[flV F O p t, .int .i64 i, .int .i64 x] w (WitG w F O ts ow p t ts (ow.set i x)) := by
  obtain ⟨hF, ⟨A, c, rfl, hT⟩⟩ := h
  obtain ⟨y, hy⟩ : ∃ y, ow[i]? = some y := ⟨_, List.getElem?_eq_getElem hi⟩
  obtain ⟨bb, off, rfl, -, -⟩ := hT i y hy
  have oF : F.oneCell' = true := by obtain ⟨A2, c2, rfl, -⟩ := hF; rfl
  have HT := Lib.hid hT; have HFF := Lib.hid hF
  have hbl : Below w.heap.size w ((w.alloc (.cells (flL F (.slice (some ⟨bb, off, none⟩) ow.length c) p t).toArray 30)).alloc (.cells #[.slice none 0 0, .int .u64 0, .int .u64 0, .int .u64 0, .int .u64 0, .int .u64 0, .int .u64 0, .int .u64 0, .int .u64 0, .int .u64 0, .int .u64 0, .int .u64 0, .int .u64 0, .int .u64 0, .int .u64 0, .int .u64 0, .int .u64 0, .slice none 0 0, .int .i64 0] 30)) := ((Below.refl _ _).alloc (Nat.le_refl _) _).alloc (by simp) _
  have hbf : BF ((w.alloc (.cells (flL F (.slice (some ⟨bb, off, none⟩) ow.length c) p t).toArray 30)).alloc (.cells #[.slice none 0 0, .int .u64 0, .int .u64 0, .int .u64 0, .int .u64 0, .int .u64 0, .int .u64 0, .int .u64 0, .int .u64 0, .int .u64 0, .int .u64 0, .int .u64 0, .int .u64 0, .int .u64 0, .int .u64 0, .int .u64 0, .int .u64 0, .slice none 0 0, .int .i64 0] 30)) w.heap.size F (.slice (some ⟨bb, off, none⟩) ow.length c) p t := (Blk.new w _ _).alloc _
  have hbr : ∃ old, Blk ((w.alloc (.cells (flL F (.slice (some ⟨bb, off, none⟩) ow.length c) p t).toArray 30)).alloc (.cells #[.slice none 0 0, .int .u64 0, .int .u64 0, .int .u64 0, .int .u64 0, .int .u64 0, .int .u64 0, .int .u64 0, .int .u64 0, .int .u64 0, .int .u64 0, .int .u64 0, .int .u64 0, .int .u64 0, .int .u64 0, .int .u64 0, .int .u64 0, .slice none 0 0, .int .i64 0] 30)) (w.heap.size + 1) 30 old ∧ old.size = 19 := ⟨#[.slice none 0 0, .int .u64 0, .int .u64 0, .int .u64 0, .int .u64 0, .int .u64 0, .int .u64 0, .int .u64 0, .int .u64 0, .int .u64 0, .int .u64 0, .int .u64 0, .int .u64 0, .int .u64 0, .int .u64 0, .int .u64 0, .int .u64 0, .slice none 0 0, .int .i64 0], by
    have := Blk.new (w.alloc (.cells (flL F (.slice (some ⟨bb, off, none⟩) ow.length c) p t).toArray 30)) 30 #[.slice none 0 0, .int .u64 0, .int .u64 0, .int .u64 0, .int .u64 0, .int .u64 0, .int .u64 0, .int .u64 0, .int .u64 0, .int .u64 0, .int .u64 0, .int .u64 0, .int .u64 0, .int .u64 0, .int .u64 0, .int .u64 0, .int .u64 0, .slice none 0 0, .int .i64 0]
    simpa using this, rfl⟩
  obtain ⟨n, hn⟩ : ∃ n, ow.length = n := ⟨_, rfl⟩
  have HN := Lib.hid hn
  rw [hn] at hbl hbf hbr hi hl ⊢
  clear hT hF hn hy
  go_enter Tryd.func22, Tryd.ntmps22
  go_upto_region 1 with fail
  generalize (w.alloc (.cells (flL F (.slice (some ⟨bb, off, none⟩) n c) p t).toArray 30)).alloc (.cells #[.slice none 0 0, .int .u64 0, .int .u64 0, .int .u64 0, .int .u64 0, .int .u64 0, .int .u64 0, .int .u64 0, .int .u64 0, .int .u64 0, .int .u64 0, .int .u64 0, .int .u64 0, .int .u64 0, .int .u64 0, .int .u64 0, .int .u64 0, .slice none 0 0, .int .i64 0] 30) = W at *
  obtain ⟨old, hbr, hold⟩ := hbr
  have HBL := Lib.hid hbl; have HBF := Lib.hid hbf; have HBR := Lib.hid hbr; have HOL := Lib.hid hold
  clear hbl hbf hbr hold
  obtain ⟨i0, hi0, hz0, hz1, hz2⟩ := info_parts infoIntN
  have hal : Below W.heap.size W (W.alloc (.cells #[] 3)) := (Below.refl _ _).alloc (Nat.le_refl _) _
  have HAL := Lib.hid hal
  have c0 : (W.alloc (.cells #[] 3)).cell? ⟨w.heap.size, 17, none⟩ = some (.slice (some ⟨bb, off, none⟩) n c) := BF.c17 (Blk.alloc HBF.out _)
  have HTF : Hid (∀ j u, (numC ow)[j]? = some u → (W.alloc (.cells #[] 3)).cell? ((⟨bb, off, none⟩ : Addr).add j) = some u) := fun j u hu => by
    obtain ⟨b', o', e, hc⟩ := ((HT.out.below HBL.out).below hal).flat j u hu
    simp only [Option.some.injEq, Addr.mk.injEq, and_true] at e
    obtain ⟨rfl, rfl⟩ := e
    rw [Addr.add_mid]; exact hc
  have HTL : Hid ((numC ow).length = n * 1) := by show _ = _; rw [numC_length, HN.out, Nat.mul_one]
  have HTO := Lib.hid (numC_one ow)
  clear hal
  go_upto_region 2 with (first
    | (at_builtin; go_loud (refine wpList_append_own _ rfl _ _ 28 rfl W.heap.size 3 i0 _ 1 8 Tryd.underlying28 hi0 hz0 hz1 hz2 rfl (by decide) _ 0 [] rfl (World.ownsRow_made W #[] 0 (Nat.le_refl _) (Nat.zero_le _) rfl) ⟨bb, off, none⟩ n c (numC ow) rfl HTL.out HTF.out HTO.out (by unfold maxLen; omega) (by omega) (by simp) ?_); intro v' w1 hown hgrow hnil; obtain ⟨g5, k5, rfl⟩ : ∃ g5 k5, v' = .slice (some ⟨g5, 0, none⟩) (0 + n) k5 := (rowForm hown).resolve_left (fun z => by have := z.2; omega); have HW := Lib.hid hown; have hb1 := HAL.out.grown hgrow (by simp) (fun k hk => by have h9 : W.heap.size = k := Option.some.inj hk; omega); have HB1 := Lib.hid hb1; have hbf1 := Blk.below HBF.out hb1 (Blk.lt HBF.out); have cc1 := BF.c17 hbf1; have ff1 := BF.free hbf1 17; have HBF1 := Lib.hid hbf1; clear hown hgrow hnil hb1 hbf1))
  rw [Nat.zero_add] at *
  have hq5 : W.heap.size ≤ g5 := (HW.out.lt g5 rfl).1
  have HQ : Hid (w.heap.size ≠ g5 ∧ w.heap.size + 1 ≠ g5 ∧ w.heap.size ≤ g5) := by have := HBR.out.lt; exact ⟨by omega, by omega, by omega⟩
  have hs0 : But (fun k => k = w.heap.size) w1 (w1.setCell ⟨w.heap.size, 17, none⟩ (.slice (some ⟨g5, 0, none⟩) n k5)) := (But.refl (fun k => k = w.heap.size) w1).set _ _ (.inl rfl)
  have hbf2 : BF (w1.setCell ⟨w.heap.size, 17, none⟩ (.slice (some ⟨g5, 0, none⟩) n k5)) w.heap.size F (.slice (some ⟨g5, 0, none⟩) n k5) p t := by
    have := HBF1.out.set_ 17 (.slice (some ⟨g5, 0, none⟩) n k5)
    rw [List.setIfInBounds_toArray, flL_set17] at this
    exact this
  have hbr2 : Blk (w1.setCell ⟨w.heap.size, 17, none⟩ (.slice (some ⟨g5, 0, none⟩) n k5)) (w.heap.size + 1) 30 old := (HBR.out.below HB1.out HBR.out.lt).far (by simp) _
  have how2 : (w1.setCell ⟨w.heap.size, 17, none⟩ (.slice (some ⟨g5, 0, none⟩) n k5)).ownsRow W.heap.size 3 1 (.slice (some ⟨g5, 0, none⟩) n k5) n (numC ow) := by
    have := HW.out
    rw [List.nil_append] at this
    exact row_but this hs0 fun k hk q => by have h9 : g5 = k := Option.some.inj hk; have := HQ.out; omega
  have hbl2 : Below w.heap.size w (w1.setCell ⟨w.heap.size, 17, none⟩ (.slice (some ⟨g5, 0, none⟩) n k5)) := ((But.of_below (X := fun k => w.heap.size ≤ k) (HBL.out.trans (HB1.out.mono HBL.out.size))).set _ _ (.inr (Nat.le_refl _))).below (Nat.le_refl _) fun k _ q => q
  have HBF2 := Lib.hid hbf2; have HBR2 := Lib.hid hbr2; have HOW2 := Lib.hid how2; have HBL2 := Lib.hid hbl2
  generalize w1.setCell ⟨w.heap.size, 17, none⟩ (.slice (some ⟨g5, 0, none⟩) n k5) = W2 at *
  clear hbf2 hbr2 how2 hbl2 hs0 HBF1 HBR HW HB1 HAL HTF HTL HBF c0
  have c2 := BF.c17 HBF2.out
  have c3 := HOW2.out.cellAt i (by omega)
  obtain ⟨y, hy⟩ : ∃ y, ow[i]? = some y := ⟨_, List.getElem?_eq_getElem (by rw [HN.out]; exact hi)⟩
  rw [show (numC ow)[i]? = some (.int .i64 y) by simp [numC, hy]] at c3
  have f3 := HOW2.out.frozenAt i
  clear hy
  have i0' : (0 : Int) ≤ (i : Int) := by omega
  have i1 : (i : Int) < (n : Int) := by omega
  go_upto_region 3 with fail
  obtain ⟨hr, hb3⟩ := row_cells1 i x HOW2.out
  have HR3 := Lib.hid hr; have HB3 := Lib.hid hb3
  have HBF3 : Hid (BF (W2.setCell ⟨g5, i, none⟩ (.int .i64 x)) w.heap.size F (.slice (some ⟨g5, 0, none⟩) n k5) p t) := Blk.but HBF2.out hb3 HQ.out.1
  have HBR3 : Hid (Blk (W2.setCell ⟨g5, i, none⟩ (.int .i64 x)) (w.heap.size + 1) 30 old) := HBR2.out.but hb3 HQ.out.2.1
  clear hr hb3 c2 c3 f3
  generalize W2.setCell ⟨g5, i, none⟩ (.int .i64 x) = W3 at *
  go_wp2_with (first
    | (with_reducible (show wpList _ _ _ _ _ _); refine ld_flat rfl (.tmp 3) rfl w.heap.size rfl HBF3.out ?_)
    | (with_reducible (show wpList _ _ _ _ _ _); refine st_flat rfl (.tmp 6) (.tmp 17) rfl (w.heap.size + 1) rfl rfl oF rfl old HBR3.out HOL.out ?_))
  refine ret_flat1 rfl (w.heap.size + 1) rfl (BF.row HBR3.out) rfl ?_
  have hBW : Below w.heap.size w (W3.setRow (w.heap.size + 1) (flL F (.slice (some ⟨g5, 0, none⟩) n k5) p t).toArray) :=
    (((But.of_below (X := fun k => w.heap.size ≤ k) HBL2.out).trans (HB3.out.mono fun k _ q => by rw [q]; exact HQ.out.2.2)).row _ _ (.inr (by omega))).below (Nat.le_refl _) fun k _ q => q
  refine ⟨F, _, rfl, ⟨(InF.below (O := .slice none 0 0) (ow := []) ⟨HFF.out, none, 0, rfl, fun _ _ h => by simp at h⟩ hBW).tk, ?_⟩, fun k hk => ?_, id, hBW⟩
  have hrow : OwnF W3 W.heap.size (.slice none 0 0) (.slice (some ⟨g5, 0, none⟩) n k5) [] (ow.set i x) := ⟨World.ownsRow_nil _ _ _ _, by rw [List.length_set, HN.out]; exact HR3.out⟩
  have hrow2 := hrow.row (w.heap.size + 1) (flL F (.slice (some ⟨g5, 0, none⟩) n k5) p t).toArray fun k hk q => by
    rcases hk with z | z
    · cases z
    · have h9 : g5 = k := Option.some.inj z
      exact HQ.out.2.1 (by omega)
  · exact own_numsIn hrow2.ow
  · rcases hk with z | ⟨-, z⟩
    · exact .inr (.inl z)
    · have h9 : g5 = k := Option.some.inj z
      exact .inl (by have := HQ.out.2.2; omega)
end


theorem infoInt : (Tryd.prog.info? 3).map (fun i => (i.zero, i.size, i.bytes)) = some (some (.int .i64 0), 1, 8) := by kernel_rfl
def natCells (l : List Nat) : List Value := l.map fun n : Nat => Value.int .i64 (n : Int)
theorem natCells_app (l : List Nat) (k : Nat) : natCells l ++ [.int .i64 (k : Int)] = natCells (l ++ [k]) := by simp [natCells]
abbrev OwnN (w : World) (B : Nat) (v : Value) (l : List Nat) : Prop := w.ownsRow B 3 1 v l.length (natCells l)
theorem own_below {w w' : World} {B e k n : Nat} {v : Value} {xs : List Value} (h : w.ownsRow B e k v n xs) (hb : Below w.heap.size w w') : w'.ownsRow B e k v n xs :=
  h.kept (row := none) ⟨hb.os, hb.tape, hb.output, hb.size, fun j hj _ => hb.block j hj⟩ (by cases v.ownBlock <;> simp)
theorem ints_of_own {w : World} {B : Nat} {v : Value} {l : List Nat} (h : OwnN w B v l) : IntsAt w v (fun i => ((l.getD i 0 : Nat) : Int)) l.length := by
  have h' := h
  rcases h.2 with ⟨rfl, hn⟩ | ⟨g, cap, cur, rfl, hg, hh, hc⟩
  · exact ⟨none, 0, by rw [hn], .inl hn⟩
  · refine ⟨some ⟨g, 0, none⟩, cap, rfl, .inr ⟨g, 0, rfl, (h'.lt g rfl).2, fun i hi => ?_⟩⟩
    have := h'.cells (g := g) rfl i (.int .i64 ((l.getD i 0 : Nat) : Int)) (by simp [natCells, List.getD_eq_getElem?_getD, List.getElem?_eq_getElem hi])
    have hadd : (⟨g, 0, none⟩ : Addr).add i = ⟨g, i, none⟩ := by unfold Addr.add; split <;> simp_all
    rw [hadd] at this
    rw [Nat.zero_add]; exact this
theorem ofP_list (l : List Nat) (n : Nat) : ofP (fun i => ((l.getD i 0 : Nat) : Int)) l.length n = decide (n ∈ l) := by
  rw [Bool.eq_iff_iff, ofP_iff, decide_eq_true_eq]
  constructor
  · rintro ⟨i, hi, e⟩
    rw [List.getD_eq_getElem?_getD, List.getElem?_eq_getElem hi] at e
    have : l[i] = n := by simp only [Option.getD_some] at e; exact Int.ofNat_inj.1 e
    rw [← this]; exact List.getElem_mem hi
  · intro h
    obtain ⟨i, hi, e⟩ := List.getElem_of_mem h
    exact ⟨i, hi, by rw [List.getD_eq_getElem?_getD, List.getElem?_eq_getElem hi]; simp [e]⟩
/-- The members below k, rising. -/
def upto (r : Nat → Bool) (k : Nat) : List Nat := (List.range k).filter r
theorem upto_succ (r : Nat → Bool) (k : Nat) : upto r (k + 1) = if r k then upto r k ++ [k] else upto r k := by
  unfold upto; rw [List.range_succ, List.filter_append]; cases h : r k <;> simp [h]
theorem upto_len (r : Nat → Bool) (k : Nat) : (upto r k).length ≤ k := by
  unfold upto; exact Nat.le_trans (List.length_filter_le _ _) (by simp)
theorem cells_upto (r : Nat → Bool) : cellsOf (ofP (fun i => (((upto r 1024).getD i 0 : Nat) : Int)) (upto r 1024).length) = cellsOf r :=
  cellsOf_congr fun n hn => by rw [ofP_list, Bool.eq_iff_iff, decide_eq_true_eq]; simp [upto, hn]

theorem push_below {w w' : World} {B g : Nat} {v : Value} {l : List Nat} {o : Obj} (hv : OwnN w B v l) (hg : (w.alloc o).grownBy w' v.ownBlock) (hB : B ≤ w.heap.size) (_ : g = g) : Below B w w' :=
  Below.grown ((Below.refl _ _).alloc hB _) hg (by simp; omega) (fun k hk => (hv.lt k hk).1)
/-- A row of numbers that grows, in a block of its own. -/
structure Row1 (B : Nat) (w : World) (l : List Nat) (a : Value) (wr : World) : Prop where
  bel : Below B w wr
  lt : B ≤ wr.heap.size
  own : OwnN wr B a l
theorem Row1.on {B : Nat} {w wr w' : World} {l : List Nat} {a : Value} (h : Row1 B w l a wr) (hb : Below wr.heap.size wr w') : Row1 B w l a w' :=
  ⟨h.bel.trans (hb.mono h.lt), Nat.le_trans h.lt hb.size, own_below h.own hb⟩
theorem Row1.push {B k g cap : Nat} {w wr w' : World} {l : List Nat} {a : Value} {o : Obj} (h : Row1 B w l a wr)
    (ho : w'.ownsRow B 3 1 (.slice (some ⟨g, 0, none⟩) (l.length + 1) cap) (l.length + 1) (natCells l ++ [.int .i64 (k : Int)])) (hg : (wr.alloc o).grownBy w' a.ownBlock) :
    Row1 B w (l ++ [k]) (.slice (some ⟨g, 0, none⟩) (l.length + 1) cap) w' := by
  have hb := push_below h.own hg h.lt (rfl : g = g)
  refine ⟨h.bel.trans hb, Nat.le_trans h.lt hb.size, ?_⟩
  rw [natCells_app] at ho; simpa [OwnN] using ho
theorem own_mono {w : World} {B B' : Nat} {v : Value} {l : List Nat} (h : OwnN w B v l) (hB : B' ≤ B) : OwnN w B' v l :=
  ⟨h.1, h.2.imp id fun ⟨g, cap, cur, e1, e2, e3⟩ => ⟨g, cap, cur, e1, Nat.le_trans hB e2, e3⟩⟩
theorem Row1.old {w wr : World} {p : Nat → Bool} {l : List Nat} {a : Value} (h : Row1 (w.heap.size + 1) (w.alloc (.cells (cellsOf p) 24)) l a wr) :
    wr.heap[w.heap.size]? = some (.cells (cellsOf p) 24 (0, 0)) := (h.bel.block _ (by omega)).trans (heap_alloc_new _ _)
theorem Row1.out {w wr : World} {p : Nat → Bool} {l : List Nat} {a : Value} (h : Row1 (w.heap.size + 1) (w.alloc (.cells (cellsOf p) 24)) l a wr) : Row1 w.heap.size w l a wr :=
  ⟨((Below.refl _ _).alloc (Nat.le_refl _) _).trans (h.bel.mono (by omega)), Nat.le_of_succ_le h.lt, own_mono h.own (by omega)⟩

set_option maxRecDepth 100000 in
set_option maxHeartbeats 1600000 in
/-- The document's List. -/
theorem refList_any (p : Nat → Bool) (w : World) :
    Calls Tryd.prog 32 #[.agg (cellsOf p)] w fun e w' => ∃ v, e = .returned v ∧ Row1 w.heap.size w (upto p 1024) v w' := by
  obtain ⟨i0, hi0, hz0, hz1, hz2⟩ := info_parts infoInt
  have HI := Lib.hid (show Row1 (w.heap.size + 1) (w.alloc (.cells (cellsOf p) 24)) (upto p 0) (.slice none 0 0) (w.alloc (.cells (cellsOf p) 24)) from ⟨Below.refl _ _, by simp, World.ownsRow_nil _ _ _ _⟩)
  go_enter Tryd.func32, Tryd.ntmps32
  go_wp2
  go_loopw [3, 4] (fun a i wr => ∃ k : Nat, k ≤ 1024 ∧ i = .int .i64 k ∧ Row1 (w.heap.size + 1) (w.alloc (.cells (cellsOf p) 24)) (upto p k) a wr) (fun _ i _ => 1024 - (intOf i).toNat)
  case atStart => exact ⟨0, by omega, rfl, HI.out⟩
  case round =>
    obtain ⟨k, hk, rfl, hI⟩ := hrel
    clear HI
    have l1 := upto_len p k
    have hl := hI.lt
    have K0 := Lib.hid hI.old
    have HJ := Lib.hid hI; clear hI
    by_cases hlt : k < 1024
    · have hq := refHas_yes p k
      cases hp : p k
      · rw [hp] at hq
        have HQ := Lib.hid hq
        have e1 : upto p (k + 1) = upto p k := by rw [upto_succ]; simp [hp]
        have E1 := Lib.hid e1; clear e1 hp hq
        go_wp2_with (first | (refine ld_set rfl _ rfl _ rfl _ K0.out ?_) | (go_at_call 17; refine (HQ.out _ hlt).mono ?_; rintro e w2 ⟨rfl, h2⟩))
        go_roundw
        case rel => exact ⟨k + 1, by omega, by go_num, by rw [E1.out]; exact HJ.out.on h2⟩
        case measure => simp [intOf]; omega
      · rw [hp] at hq
        have HQ := Lib.hid hq
        have e1 : upto p (k + 1) = upto p k ++ [k] := by rw [upto_succ]; simp [hp]
        have E1 := Lib.hid e1; clear e1 hp hq
        go_wp2_with (first | (refine ld_set rfl _ rfl _ rfl _ K0.out ?_) | (go_at_call 17; refine (HQ.out _ hlt).mono ?_; rintro e w2 ⟨rfl, h2⟩) | (at_builtin; refine wpList_append_lies _ rfl (.tmp 12) (.tmp 14) 28 rfl (w.heap.size + 1) 3 i0 (.int .i64 0) 1 8 Tryd.underlying28 hi0 hz0 hz1 hz2 rfl (by decide) _ _ _ rfl ((HJ.out.on h2).own.alloc _) ⟨w2.heap.size, 0, none⟩ 1 1 [.int .i64 k] rfl rfl ?_ ?_ (by decide) ?_ ?_ ?_ (w2.heap.size + 1) ?_ ?_))
        · exact cell_one_new _ _ _
        · intro u hu; simp at hu; subst hu; rfl
        · unfold maxLen; omega
        · have := (HJ.out.on h2).lt; omega
        · have := (HJ.out.on h2).lt; simp; omega
        · simp
        intro g cap w3 own3 g3 hat3 hl3
        have R3 := Lib.hid ((HJ.out.on h2).push own3 g3)
        clear own3 g3 hat3
        go_wp2_with fail
        go_roundw
        case rel => exact ⟨k + 1, by omega, by go_num, by rw [E1.out]; exact R3.out⟩
        case measure => simp [intOf]; omega
    · obtain rfl : k = 1024 := by omega
      go_wp2
      go_ret
      exact ⟨_, rfl, HJ.out.out⟩

end Go.Proofs.YtilaalleiiakoaaDoor
