/- What the laws of layer 19 lean on: a light machine; the example's program; two machines the same. -/
import Derived.Test.YtilaalleiiakoaaDoorKx
namespace Go.Proofs.YtilaalleiiakoaaDoor
open Go.RowKit
set_option maxRecDepth 100000

def lightP (n m : Nat) (ps : List PR) : Bool := decide (n ≤ 40 ∧ m ≤ 40 ∧ ps.length ≤ 20) && ps.all fun q => decide (q.l.length ≤ 80)
theorem light_len {n m : Nat} {ps : List PR} (h : lightP n m ps = true) : n ≤ 40 ∧ m ≤ 40 ∧ ps.length ≤ 20 := by
  unfold lightP at h
  rw [Bool.and_eq_true] at h
  simpa using h.1
section
variable {w : World} {B : Nat} {p : Nat → Bool} {t : Int} {PA : Option Addr} {ps : List PR}
set_option maxHeartbeats 4000000 in
theorem light_any (A A' : Option Addr) (n m c c' pcap : Nat) (hG : Gnd w B PA ps) :
    Calls Tryd.prog 7 #[flV (.slice A n c) (.slice A' m c') p t, .slice PA ps.length pcap] w (GotB w.heap.size (.bool (lightP n m ps)) w) := by
  have hbl : Below w.heap.size w (w.alloc (.cells (flL (.slice A n c) (.slice A' m c') p t).toArray 30)) := (Below.refl _ _).alloc (Nat.le_refl _) _
  have hbf : BF (w.alloc (.cells (flL (.slice A n c) (.slice A' m c') p t).toArray 30)) w.heap.size (.slice A n c) (.slice A' m c') p t := Blk.new w _ _
  have HG := Lib.hid hG
  obtain ⟨R, hR⟩ : ∃ R, lightP n m ps = R := ⟨_, rfl⟩
  have HR := Lib.hid hR
  rw [hR]
  obtain ⟨N, hN⟩ : ∃ N, ps.length = N := ⟨_, rfl⟩
  have HN := Lib.hid hN
  rw [hN]
  clear hG hR hN
  go_enter Tryd.func7, Tryd.ntmps7
  go_upto_region 1 with fail
  generalize w.alloc (.cells (flL (.slice A n c) (.slice A' m c') p t).toArray 30) = W at *
  have c0 := BF.c0 hbf
  have c17 := BF.c17 hbf
  have HB := Lib.hid hbl
  clear hbf hbl
  by_cases h1 : n ≤ 40
  · have t1 : decide (40 < n) = false := by simp; omega
    have t1' : decide ((40 : Int) < (n : Int)) = false := by simp; omega
    by_cases h2 : m ≤ 40
    · have t2 : decide (40 < m) = false := by simp; omega
      have t2' : decide ((40 : Int) < (m : Int)) = false := by simp; omega
      by_cases h3 : N ≤ 20
      · have t3 : decide (20 < N) = false := by simp; omega
        have t3' : decide ((20 : Int) < (N : Int)) = false := by simp; omega
        have HRE : Hid (R = ps.all fun q => decide (q.l.length ≤ 80)) := by
          show _ = _
          rw [← HR.out]; unfold lightP
          rw [show decide (n ≤ 40 ∧ m ≤ 40 ∧ ps.length ≤ 20) = true by rw [HN.out]; simp; omega, Bool.true_and]
        clear HR
        go_upto_region 3 with fail
        clear t1 t1' t2 t2' t3 t3' c0 c17
        go_wp2_with fail
        go_loopw [24] (fun iv wr => ∃ k : Nat, iv = .int .i64 k ∧ k ≤ N ∧ Below w.heap.size w wr ∧ ((ps.drop k).all fun q => decide (q.l.length ≤ 80)) = R) (fun iv _ => N - (intOf iv).toNat)
        case atStart => exact ⟨0, rfl, Nat.zero_le _, HB.out, by rw [List.drop_zero]; exact HRE.out.symm⟩
        case round =>
          obtain ⟨k, rfl, hk, hb, hr⟩ := hrel
          by_cases hlt : k < N
          · obtain ⟨q, hq⟩ : ∃ q, ps[k]? = some q := ⟨_, List.getElem?_eq_getElem (by rw [HN.out]; exact hlt)⟩
            have hd : ps.drop k = q :: ps.drop (k + 1) := by
              have hkl := (List.getElem?_eq_some_iff.1 hq).1
              rw [List.drop_eq_getElem_cons hkl]
              congr 1
              rw [List.getElem?_eq_getElem hkl] at hq; simpa using hq
            rw [hd, List.all_cons] at hr
            obtain ⟨pb, off, rfl, -, d0, d1, -, -⟩ := (HG.out.below (hb.mono HG.out.le)).ps k q hq
            have k0 : (0 : Int) ≤ (k : Int) := by omega
            have k1 : (k : Int) < (N : Int) := by omega
            have HBB := Lib.hid hb; have HRR := Lib.hid hr
            obtain ⟨prio, QA, l, cp⟩ := q
            dsimp only at d0 d1 HRR
            generalize l.length = M at *
            clear hd hq hb hr
            by_cases h4 : M ≤ 80
            · have t4 : decide (80 < M) = false := by simp; omega
              have t4' : decide ((80 : Int) < (M : Int)) = false := by simp; omega
              go_wp2_with fail
              go_roundw
              case rel =>
                refine ⟨k + 1, by go_num, by omega, HBB.out.alloc HBB.out.size _, ?_⟩
                have := HRR.out
                rwa [show decide (M ≤ 80) = true by simpa using h4, Bool.true_and] at this
              case measure => simp [intOf]; omega
            · have t4 : decide (80 < M) = true := by simp; omega
              have t4' : decide ((80 : Int) < (M : Int)) = true := by simp; omega
              go_wp2_with fail
              go_ret
              have e := HRR.out
              rw [show decide (M ≤ 80) = false by simpa using h4, Bool.false_and] at e
              subst e
              exact ⟨rfl, HBB.out.alloc HBB.out.size _⟩
          · obtain rfl : k = N := by omega
            have tk : ¬ (k : Int) < (k : Int) := by omega
            have HBB := Lib.hid hb
            rw [List.drop_of_length_le (by rw [HN.out]; exact Nat.le_refl _)] at hr
            have HRR := Lib.hid hr
            clear hb hr
            go_wp2_with fail
            go_ret
            have e := HRR.out
            subst e
            exact ⟨rfl, HBB.out⟩
      · have t3 : decide (20 < N) = true := by simp; omega
        have t3' : decide ((20 : Int) < (N : Int)) = true := by simp; omega
        have e : R = false := by rw [← HR.out]; unfold lightP; rw [show decide (n ≤ 40 ∧ m ≤ 40 ∧ ps.length ≤ 20) = false by rw [HN.out]; simp; omega]; rfl
        subst e
        clear HR
        go_wp2_with fail
        go_ret
        exact ⟨rfl, HB.out⟩
    · have t2 : decide (40 < m) = true := by simp; omega
      have t2' : decide ((40 : Int) < (m : Int)) = true := by simp; omega
      have e : R = false := by rw [← HR.out]; unfold lightP; rw [show decide (n ≤ 40 ∧ m ≤ 40 ∧ ps.length ≤ 20) = false by simp; omega]; rfl
      subst e
      clear HR
      go_wp2_with fail
      go_ret
      exact ⟨rfl, HB.out⟩
  · have t1 : decide (40 < n) = true := by simp; omega
    have t1' : decide ((40 : Int) < (n : Int)) = true := by simp; omega
    have e : R = false := by rw [← HR.out]; unfold lightP; rw [show decide (n ≤ 40 ∧ m ≤ 40 ∧ ps.length ≤ 20) = false by simp; omega]; rfl
    subst e
    clear HR
    go_wp2_with fail
    go_ret
    exact ⟨rfl, HB.out⟩
/-- The example's program. -/
def exQ (A : Option Addr) : PR := ⟨0, A, [⟨14, 0, 0, 0⟩], 1⟩
def OneG (w : World) (e : Ending) (w' : World) : Prop := ∃ A Q, e = .returned (.slice A 1 1) ∧ Gnd w' w'.heap.size A [exQ Q] ∧ Below w.heap.size w w'
set_option maxHeartbeats 1000000 in
theorem one_any (hG : Gnd w B PA ps) : Calls Tryd.prog 18 #[] w (OneG w) := by
  have h1 := Blk.new w 59 #[.int .i64 14, .int .i64 0, .int .i64 0, .int .i32 0]
  have h2 := Blk.new (w.alloc (.cells #[.int .i64 14, .int .i64 0, .int .i64 0, .int .i32 0] 59)) 53 #[.int .i64 0, .slice (some ⟨w.heap.size, 0, none⟩) 1 1]
  have h1' := h1.alloc (.cells #[.int .i64 0, .slice (some ⟨w.heap.size, 0, none⟩) 1 1] 53)
  have hb : Below w.heap.size w ((w.alloc (.cells #[.int .i64 14, .int .i64 0, .int .i64 0, .int .i32 0] 59)).alloc (.cells #[.int .i64 0, .slice (some ⟨w.heap.size, 0, none⟩) 1 1] 53)) := ((Below.refl _ _).alloc (Nat.le_refl _) _).alloc (by simp) _
  have hT := (hG.below (hb.mono hG.le)).tabs
  have hsz : (w.alloc (.cells #[.int .i64 14, .int .i64 0, .int .i64 0, .int .i32 0] 59)).heap.size = w.heap.size + 1 := by simp
  rw [hsz] at h2
  have H1 := Lib.hid h1'; have H2 := Lib.hid h2; have HB := Lib.hid hb; have HT := Lib.hid hT
  clear h1 h2 h1' hb hT hG hsz
  go_enter Tryd.func18, Tryd.ntmps18
  go_wp2_with fail
  go_ret
  refine ⟨some ⟨w.heap.size + 1, 0, none⟩, some ⟨w.heap.size, 0, none⟩, rfl, ⟨HT.out, HT.out.size, Nat.le_refl _, fun i q hq => ?_⟩, HB.out⟩
  match i, hq with
  | 0, hq =>
    simp at hq; subst hq
    have hlt := H2.out.lt
    refine ⟨w.heap.size + 1, 0, rfl, hlt, H2.out.cell 0, H2.out.cell 1, fun j x hx => ?_, fun _ a ha => ?_⟩
    · match j, hx with
      | 0, hx =>
        have hx' : (⟨14, 0, 0, 0⟩ : I4) = x := by simpa [exQ] using hx
        subst hx'
        exact ⟨⟨by simp [In64], by simp [In64], by simp [In64], by simp⟩, w.heap.size, 0, rfl, H1.out.lt, H1.out.cell 0, H1.out.cell 1, H1.out.cell 2, H1.out.cell 3⟩
      | j + 1, hx => simp [exQ] at hx
    · have : a = ⟨w.heap.size, 0, none⟩ := (Option.some.inj ha).symm
      subst this
      exact H1.out.lt
  | i + 1, hq => simp at hq
end

set_option maxRecDepth 100000

theorem ftFields : Tryd.prog.underlying 45 = some (.struct (Tryd.prog.fieldsOf 45)) := by kernel_rfl
theorem ftStood : Tryd.prog.stoodInHeld 45 = false := by kernel_rfl
theorem ftGuard : Tryd.prog.eqGuardType Tryd.prog.depth 45 = false := by kernel_rfl
theorem self_fields (d : Nat) (xs : Array Value) (w : World) : ∀ fs : List Field, (∀ f ∈ fs, ∃ a, (part f.type xs f.offset).run Tryd.prog w = .ok a w ∧ (Op.equalIn d f.type a a).run Tryd.prog w = .ok true w) → (Op.eqFields d xs xs fs).run Tryd.prog w = .ok true w
  | [], _ => by simp [Op.eqFields]
  | f :: fs, h => by
    obtain ⟨a, p, q⟩ := h f (by simp)
    have ih := self_fields d xs w fs fun g hg => h g (by simp [hg])
    unfold Op.eqFields
    split
    · simp [Sem.run_bind, p, q, ih]
    · exact ih
theorem self_items (d : Nat) (e : TypeId) (c : Nat) (xs : Array Value) (w : World) : ∀ is : List Nat, (∀ i ∈ is, ∃ a, (part e xs (i * c)).run Tryd.prog w = .ok a w ∧ (Op.equalIn d e a a).run Tryd.prog w = .ok true w) → (Op.eqItems d e c xs xs is).run Tryd.prog w = .ok true w
  | [], _ => by simp [Op.eqItems]
  | i :: is, h => by
    obtain ⟨a, p, q⟩ := h i (by simp)
    have ih := self_items d e c xs w is fun g hg => h g (by simp [hg])
    unfold Op.eqItems
    simp [Sem.run_bind, p, q, ih]
theorem part_row {t : TypeId} {n : Nat} {dd : TypeDesc} (xs : Array Value) (off : Nat) (w : World) (hu : Tryd.prog.underlying t = some dd) (hd : dd.isRow = true) (hi : (Tryd.prog.info? t).map (·.size) = some n) : (part t xs off).run Tryd.prog w = .ok (.agg (xs.extract off (off + n))) w := by
  have hagg : (isAgg t).run Tryd.prog w = .ok true w := by
    unfold isAgg
    rw [Sem.run_bind, run_underlying hu w]
    cases dd <;> simp_all
  cases hq : Tryd.prog.info? t with
  | none => simp [hq] at hi
  | some i =>
    have hs : i.size = n := by simpa [hq] using hi
    simp [part, Sem.run_bind, hagg, sizeOf, typeInfo, hq, hs]
/-- A number is the same as itself. -/
theorem self_int {k : IntKind} {t : TypeId} (hu : Tryd.prog.underlying t = some (.int k)) (hp : Tryd.prog.plainKey t = true) (d : Nat) (xs : Array Value) (off : Nat) (n : Int) (hx : xs[off]? = some (.int k n)) (w : World) : ∃ a, (part t xs off).run Tryd.prog w = .ok a w ∧ (Op.equalIn (d + 1) t a a).run Tryd.prog w = .ok true w :=
  ⟨_, run_part_plain w hp hx, by rw [run_equalIn_int w d t k k n n hu]; simp⟩
theorem self_arr {k : IntKind} {t e : TypeId} {n : Nat} {i : TypeInfo} (hu : Tryd.prog.underlying t = some (.array n e)) (hi : Tryd.prog.info? e = some i) (hn : (Tryd.prog.info? t).map (·.size) = some n) (hc : Tryd.prog.cellsOf e = 1) (he : Tryd.prog.underlying e = some (.int k)) (hp : Tryd.prog.plainKey e = true) (d : Nat) (xs : Array Value) (off : Nat)
    (hx : ∀ j, j < n → ∃ m, xs[off + j]? = some (.int k m)) (w : World) : ∃ a, (part t xs off).run Tryd.prog w = .ok a w ∧ (Op.equalIn (d + 2) t a a).run Tryd.prog w = .ok true w := by
  refine ⟨_, part_row xs off w hu rfl hn, ?_⟩
  rw [run_equalIn_array w (d + 1) _ _ hu hi]
  refine self_items (d + 1) e _ _ w _ fun j hj => ?_
  have hj' : j < n := by simpa using hj
  obtain ⟨m, hm⟩ := hx j hj'
  refine self_int he hp d _ _ m ?_ w
  rw [hc, Nat.mul_one, Array.getElem?_extract, if_pos (by
    have := (Array.getElem?_eq_some_iff.1 hm).1
    omega)]
  exact hm
set_option maxHeartbeats 4000000 in
theorem ft_self (x : FT) (w : World) : (Op.equalIn 10000 45 (.agg (taskC x).toArray) (.agg (taskC x).toArray)).run Tryd.prog w = .ok true w := by
  have hf := Option.some.inj (ftFields.symm.trans Tryd.underlying45)
  injection hf with hf
  have h := run_equalIn_struct (P := Tryd.prog) w 9999 45 (taskC x).toArray (taskC x).toArray ftFields ftStood
  simp only [Nat.reduceAdd] at h
  obtain ⟨i32, hi32⟩ : ∃ i, Tryd.prog.info? 21 = some i := Option.isSome_iff_exists.1 (by kernel_rfl)
  have hs : (Op.eqFields 9999 (taskC x).toArray (taskC x).toArray (Tryd.prog.fieldsOf 45).toList).run Tryd.prog w = .ok true w := by
    rw [hf]
    refine self_fields 9999 (taskC x).toArray w _ fun f hfm => ?_
    simp only [List.mem_cons, List.not_mem_nil, or_false] at hfm
    rcases hfm with rfl | rfl | rfl | rfl | rfl
    · exact self_int Tryd.underlying3 (by kernel_rfl) 9998 _ 0 x.pg rfl w
    · exact self_int Tryd.underlying3 (by kernel_rfl) 9998 _ 1 x.pc rfl w
    · refine self_arr (k := .i32) Tryd.underlying43 hi32 (by kernel_rfl) (by kernel_rfl) Tryd.underlying21 (by kernel_rfl) 9997 _ 2 (fun j hj => ?_) w
      match j, hj with
      | 0, _ => exact ⟨x.r.a, rfl⟩
      | 1, _ => exact ⟨x.r.b, rfl⟩
      | 2, _ => exact ⟨x.r.c, rfl⟩
      | 3, _ => exact ⟨x.r.d, rfl⟩
    · exact self_int Tryd.underlying3 (by kernel_rfl) 9998 _ 6 x.st rfl w
    · exact self_int Tryd.underlying3 (by kernel_rfl) 9998 _ 7 x.on rfl w
  rw [h, hs]
theorem ft_neq (x : FT) (w : World) : (binOp .neq 45 (.agg (taskC x).toArray) (.agg (taskC x).toArray)).run Tryd.prog w = .ok (.bool false) w := by
  rw [run_neq_struct, ft_self]; rfl
theorem quiet_load_ft {C : World → Prop} {o : Oper} {a : Act} {K : Act → Prop} (x : Operand) (ho : o.op = .load 45 x) (b off : Nat) (z : FT) (hx : a.eval x = .pointer (some ⟨b, off, none⟩))
    (hC : ∀ w', C w' → w'.rangeAt b off (taskC z)) (hk : K (a.put o.dst (.agg (taskC z).toArray))) : o.quiet Tryd.prog a C K :=
  ⟨_, fun w' h => by
    have hr := run_loadAt_mid (P := Tryd.prog) w' b off 45 (taskC z) _ (hC w' h) Tryd.underlying45 rfl (by rw [infoFT, taskC_len])
    unfold Oper.quietAt execOp
    simp only [ho, hx, Sem.run_bind, Sem.run_pure, Result.andThen_ok, hr]
    exact ⟨rfl, rfl⟩, hk⟩
theorem quiet_neq_ft {C : World → Prop} {o : Oper} {a : Act} {K : Act → Prop} (x y : Operand) (ty : TypeId) (ho : o.op = .binOp .neq 45 x y ty) (z : FT) (hx : a.eval x = .agg (taskC z).toArray) (hy : a.eval y = .agg (taskC z).toArray)
    (hk : K (a.put o.dst (.bool false))) : o.quiet Tryd.prog a C K :=
  ⟨_, fun w' _ => by
    unfold Oper.quietAt execOp
    simp only [ho, hx, hy, Sem.run_bind, Sem.run_pure, Result.andThen_ok, run_eqGuard_agg w' .neq 45 x y (taskC z).toArray (taskC z).toArray ftGuard, ft_neq z w']
    exact ⟨rfl, rfl⟩, hk⟩
theorem quiet_load_val {C : World → Prop} {o : Oper} {a : Act} {K : Act → Prop} (t : TypeId) (x : Operand) (ho : o.op = .load t x) (p : Addr) (v : Value) (hx : a.eval x = .pointer (some p))
    (hC : ∀ w', C w' → (Instr.loadAt t (.pointer (some p))).run Tryd.prog w' = .ok v w') (hk : K (a.put o.dst v)) : o.quiet Tryd.prog a C K :=
  ⟨_, fun w' h => by
    have hr := hC w' h
    unfold Oper.quietAt execOp
    simp only [ho, hx, Sem.run_bind, Sem.run_pure, Result.andThen_ok, hr]
    exact ⟨rfl, rfl⟩, hk⟩
section
variable {w : World} {F O F' O' : Value} {ts : List FT} {ow : List Int} {p : Nat → Bool} {t : Int}
set_option maxHeartbeats 8000000 in
theorem same_yes (h : InF w F O ts ow) (h' : InF w F' O' ts ow) (hl : ts.length ≤ 1000) (hm : ow.length ≤ 1000) :
    Calls Tryd.prog 12 #[flV F O p t, flV F' O' p t] w (GotB w.heap.size (.bool true) w) := by
  obtain ⟨⟨A, c, rfl, hT⟩, A2, c2, rfl, hN⟩ := h
  obtain ⟨⟨A', c', rfl, hT'⟩, A2', c2', rfl, hN'⟩ := h'
  have hb1 : Blk ((w.alloc (.cells (flL (.slice A ts.length c) (.slice A2 ow.length c2) p t).toArray 30)).alloc (.cells (flL (.slice A' ts.length c') (.slice A2' ow.length c2') p t).toArray 30)) w.heap.size 30 (flL (.slice A ts.length c) (.slice A2 ow.length c2) p t).toArray := (Blk.new w _ _).alloc _
  have hb2 : Blk ((w.alloc (.cells (flL (.slice A ts.length c) (.slice A2 ow.length c2) p t).toArray 30)).alloc (.cells (flL (.slice A' ts.length c') (.slice A2' ow.length c2') p t).toArray 30)) (w.heap.size + 1) 30 (flL (.slice A' ts.length c') (.slice A2' ow.length c2') p t).toArray := by
    have := Blk.new (w.alloc (.cells (flL (.slice A ts.length c) (.slice A2 ow.length c2) p t).toArray 30)) 30 (flL (.slice A' ts.length c') (.slice A2' ow.length c2') p t).toArray
    simpa using this
  have hbl : Below w.heap.size w ((w.alloc (.cells (flL (.slice A ts.length c) (.slice A2 ow.length c2) p t).toArray 30)).alloc (.cells (flL (.slice A' ts.length c') (.slice A2' ow.length c2') p t).toArray 30)) := ((Below.refl _ _).alloc (Nat.le_refl _) _).alloc (by simp) _
  have HT := Lib.hid hT; have HT' := Lib.hid hT'; have HN := Lib.hid hN; have HN' := Lib.hid hN'
  obtain ⟨n, hn⟩ : ∃ n, ts.length = n := ⟨_, rfl⟩
  obtain ⟨m, hm'⟩ : ∃ m, ow.length = m := ⟨_, rfl⟩
  have HLN := Lib.hid hn; have HLM := Lib.hid hm'
  rw [hn] at hl
  rw [hm'] at hm
  rw [hn, hm'] at hb1 hb2 hbl ⊢
  clear hT hT' hN hN' hn hm'
  go_enter Tryd.func12, Tryd.ntmps12
  go_upto_region 1 with fail
  generalize (w.alloc (.cells (flL (.slice A n c) (.slice A2 m c2) p t).toArray 30)).alloc (.cells (flL (.slice A' n c') (.slice A2' m c2') p t).toArray 30) = W at *
  have c0 := BF.c0 hb1; have c17 := BF.c17 hb1; have c18 := BF.c18 hb1
  have d0 := BF.c0 hb2; have d17 := BF.c17 hb2; have d18 := BF.c18 hb2
  have HB1 : Hid (BF W w.heap.size (.slice A n c) (.slice A2 m c2) p t) := hb1
  have HB2 : Hid (BF W (w.heap.size + 1) (.slice A' n c') (.slice A2' m c2') p t) := hb2
  have HBL := Lib.hid hbl
  have HEQ : Hid ((!eqP p p) = false) := by
    have : eqP p p = true := eqP_true.2 fun _ _ => rfl
    show _ = _
    rw [this]; rfl
  have t1 : (t != t) = false := by simp
  have t2 : ((n : Int) != (n : Int)) = false := by simp
  have t3 : ((m : Int) != (m : Int)) = false := by simp
  clear hb1 hb2 hbl
  go_upto_region 3 with (first
    | (with_reducible (show wpList _ _ _ _ _ _); refine ld_on rfl (.tmp 7) rfl w.heap.size rfl HB1.out ?_)
    | (with_reducible (show wpList _ _ _ _ _ _); refine ld_on rfl (.tmp 9) rfl (w.heap.size + 1) rfl HB2.out ?_)
    | (with_reducible (show wpList _ _ _ _ _ _); refine neq_set rfl (.tmp 8) (.tmp 10) _ rfl p p rfl rfl ?_; rw [HEQ.out]))
  clear t1 t2 t3 c17 d17 c18 d18
  have HTW := Lib.hid (HT.out.below HBL.out); have HTW' := Lib.hid (HT'.out.below HBL.out)
  go_wp2_with fail
  go_loopw [40] (fun iv wr => ∃ k : Nat, iv = .int .i64 k ∧ k ≤ n ∧ Below W.heap.size W wr) (fun iv _ => n - (intOf iv).toNat)
  case atStart => exact ⟨0, rfl, Nat.zero_le _, Below.refl _ _⟩
  case round =>
    obtain ⟨k, rfl, hk, hb⟩ := hrel
    have HB := Lib.hid hb
    by_cases hlt : k < n
    · obtain ⟨x, hx⟩ : ∃ x, ts[k]? = some x := ⟨_, List.getElem?_eq_getElem (by rw [HLN.out]; exact hlt)⟩
      obtain ⟨g, off, rfl, hg, hr⟩ := HTW.out k x hx
      obtain ⟨g', off', rfl, hg', hr'⟩ := HTW'.out k x hx
      have k0 : (0 : Int) ≤ (k : Int) := by omega
      have k1 : (k : Int) < (n : Int) := by omega
      have HR : Hid (∀ w', Cls wr.heap.size wr w' → w'.rangeAt g (off + k * 8) (taskC x)) := fun w' hw => range_below hr (hb.trans (hw.mono hb.size)) hg
      have HR' : Hid (∀ w', Cls wr.heap.size wr w' → w'.rangeAt g' (off' + k * 8) (taskC x)) := fun w' hw => range_below hr' (hb.trans (hw.mono hb.size)) hg'
      have HC0 : Hid (∀ w', Cls wr.heap.size wr w' → w'.cell? ⟨w.heap.size, 0, none⟩ = some (.slice (some ⟨g, off, none⟩) n c)) := fun w' hw => BF.c0 (Blk.below HB1.out (hb.trans (hw.mono hb.size)) (Blk.lt HB1.out))
      have HC0' : Hid (∀ w', Cls wr.heap.size wr w' → w'.cell? ⟨w.heap.size + 1, 0, none⟩ = some (.slice (some ⟨g', off', none⟩) n c')) := fun w' hw => BF.c0 (Blk.below HB2.out (hb.trans (hw.mono hb.size)) (Blk.lt HB2.out))
      clear hr hr' hg hg' hb hx
      go_upto_region 6 with fail
      refine wp_region_cls (by kernel_rfl) (by kernel_rfl) ?_
      repeat
        first
        | go_big_quiet_skip
        | (go_big_quiet_want
           first
           | (refine quiet_load_ft _ rfl g (off + k * 8) x rfl (fun w' h => HR.out w' h) ?_; go_simp; go_big_quiet_on)
           | (refine quiet_load_ft _ rfl g' (off' + k * 8) x rfl (fun w' h => HR'.out w' h) ?_; go_simp; go_big_quiet_on)
           | (refine quiet_neq_ft _ _ _ rfl x rfl rfl ?_; go_simp; go_big_quiet_on)
           | (refine quiet_load_val 27 _ rfl ⟨w.heap.size, 0, none⟩ (.slice (some ⟨g, off, none⟩) n c) rfl (fun w' h => by have z := HC0.out w' h; go_simp) ?_; go_simp; go_big_quiet_on)
           | (refine quiet_load_val 27 _ rfl ⟨w.heap.size + 1, 0, none⟩ (.slice (some ⟨g', off', none⟩) n c') rfl (fun w' h => by have z := HC0'.out w' h; go_simp) ?_; go_simp; go_big_quiet_on)
           | (go_big_quiet_op
              first
              | go_big_quiet_on
              | (refine ⟨_, fun _ _ => rfl, ?_⟩; go_big_quiet_on)))
      refine wpQuiet_nil ?_
      intro w4 h4
      have HB4 := Lib.hid (HB.out.trans (h4.bl.mono HB.out.size))
      clear h4
      go_wp2_with fail
      go_roundw
      case rel => exact ⟨k + 1, by go_num, by omega, HB4.out⟩
      case measure => simp [intOf]; omega
    · obtain rfl : k = n := by omega
      have tk : ¬ (k : Int) < (k : Int) := by omega
      have e17 : wr.cell? ⟨w.heap.size, 17, none⟩ = some (.slice A2 m c2) := BF.c17 (Blk.below HB1.out hb (Blk.lt HB1.out))
      have HNW := Lib.hid ((HN.out.below HBL.out).below hb); have HNW' := Lib.hid ((HN'.out.below HBL.out).below hb)
      have HB1w : Hid (BF wr w.heap.size (.slice A k c) (.slice A2 m c2) p t) := Blk.below HB1.out hb (Blk.lt HB1.out)
      have HB2w : Hid (BF wr (w.heap.size + 1) (.slice A' k c') (.slice A2' m c2') p t) := Blk.below HB2.out hb (Blk.lt HB2.out)
      have HBLw := Lib.hid (HBL.out.trans (hb.mono HBL.out.size))
      clear hb HB c0 d0
      go_wp2_with fail
      go_loopw [58] (fun iv wq => ∃ k : Nat, iv = .int .i64 k ∧ k ≤ m ∧ Below wr.heap.size wr wq) (fun iv _ => m - (intOf iv).toNat)
      case atStart => exact ⟨0, rfl, Nat.zero_le _, Below.refl _ _⟩
      case round =>
        obtain ⟨k, rfl, hk, hb⟩ := hrel
        have HB := Lib.hid hb
        by_cases hlt : k < m
        · obtain ⟨x, hx⟩ : ∃ x, ow[k]? = some x := ⟨_, List.getElem?_eq_getElem (by rw [HLM.out]; exact hlt)⟩
          obtain ⟨g, off, rfl, hg, hr⟩ := HNW.out k x hx
          obtain ⟨g', off', rfl, hg', hr'⟩ := HNW'.out k x hx
          have k0 : (0 : Int) ≤ (k : Int) := by omega
          have k1 : (k : Int) < (m : Int) := by omega
          have t9 : (x != x) = false := by simp
          have HR : Hid (∀ w', Cls wr.heap.size wr w' → w'.cell? ⟨g, off + k, none⟩ = some (.int .i64 x)) := fun w' hw => ((hb.trans (hw.mono hb.size)).cell (p := ⟨g, off + k, none⟩) hg).trans hr
          have HR' : Hid (∀ w', Cls wr.heap.size wr w' → w'.cell? ⟨g', off' + k, none⟩ = some (.int .i64 x)) := fun w' hw => ((hb.trans (hw.mono hb.size)).cell (p := ⟨g', off' + k, none⟩) hg').trans hr'
          have HC0 : Hid (∀ w', Cls wr.heap.size wr w' → w'.cell? ⟨w.heap.size, 17, none⟩ = some (.slice (some ⟨g, off, none⟩) m c2)) := fun w' hw => BF.c17 (Blk.below HB1w.out (hb.trans (hw.mono hb.size)) (Blk.lt HB1w.out))
          have HC0' : Hid (∀ w', Cls wr.heap.size wr w' → w'.cell? ⟨w.heap.size + 1, 17, none⟩ = some (.slice (some ⟨g', off', none⟩) m c2')) := fun w' hw => BF.c17 (Blk.below HB2w.out (hb.trans (hw.mono hb.size)) (Blk.lt HB2w.out))
          clear hr hr' hg hg' hb hx
          go_upto_region 12 with fail
          refine wp_region_cls (by kernel_rfl) (by kernel_rfl) ?_
          repeat
            first
            | go_big_quiet_skip
            | (go_big_quiet_want
               first
               | (refine quiet_load_val 3 _ rfl ⟨g, off + k, none⟩ (.int .i64 x) rfl (fun w' h => by have z := HR.out w' h; go_simp) ?_; go_simp; go_big_quiet_on)
               | (refine quiet_load_val 3 _ rfl ⟨g', off' + k, none⟩ (.int .i64 x) rfl (fun w' h => by have z := HR'.out w' h; go_simp) ?_; go_simp; go_big_quiet_on)
               | (refine quiet_load_val 28 _ rfl ⟨w.heap.size, 17, none⟩ (.slice (some ⟨g, off, none⟩) m c2) rfl (fun w' h => by have z := HC0.out w' h; go_simp) ?_; go_simp; go_big_quiet_on)
               | (refine quiet_load_val 28 _ rfl ⟨w.heap.size + 1, 17, none⟩ (.slice (some ⟨g', off', none⟩) m c2') rfl (fun w' h => by have z := HC0'.out w' h; go_simp) ?_; go_simp; go_big_quiet_on)
               | (go_big_quiet_op
                  first
                  | go_big_quiet_on
                  | (refine ⟨_, fun _ _ => rfl, ?_⟩; go_big_quiet_on)))
          refine wpQuiet_nil ?_
          intro w4 h4
          have HB4 := Lib.hid (HB.out.trans (h4.bl.mono HB.out.size))
          clear h4
          go_wp2_with fail
          go_roundw
          case rel => exact ⟨k + 1, by go_num, by omega, HB4.out⟩
          case measure => simp [intOf]; omega
        · obtain rfl : k = m := by omega
          have tk : ¬ (k : Int) < (k : Int) := by omega
          have HF := Lib.hid (HBLw.out.trans (hb.mono HBLw.out.size))
          clear hb HB
          go_wp2_with fail
          go_ret
          exact ⟨rfl, HF.out⟩
end
end Go.Proofs.YtilaalleiiakoaaDoor
