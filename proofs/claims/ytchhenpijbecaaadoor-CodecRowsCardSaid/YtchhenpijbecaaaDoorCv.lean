/- layer 31 (codec): rows of events and entries compared. -/
import Derived.Test.YtchhenpijbecaaaDoorCr
import Derived.Test.YtchhenpijbecaaaDoorSq
import Derived.Deep.CutBlock
namespace Go.Proofs.YtchhenpijbecaaaDoor
open Go.RowKit
set_option maxRecDepth 100000

theorem two_fields (d : Nat) (xs ys : Array Value) (w : World) (T : Field → Bool) : ∀ fs : List Field,
    (∀ f ∈ fs, f.name ≠ "_" ∧ ∃ a b, (part f.type xs f.offset).run Tryd.prog w = .ok a w ∧ (part f.type ys f.offset).run Tryd.prog w = .ok b w ∧ (Op.equalIn d f.type a b).run Tryd.prog w = .ok (T f) w) →
    (Op.eqFields d xs ys fs).run Tryd.prog w = .ok (fs.all T) w
  | [], _ => by simp [Op.eqFields]
  | f :: fs, h => by
    obtain ⟨n, a, b, p, q, r⟩ := h f (by simp)
    have ih := two_fields d xs ys w T fs fun g hg => h g (by simp [hg])
    simp only [Op.eqFields, n, ne_eq, not_false_eq_true, if_true, Sem.run_bind, p, q, r, Result.andThen_ok, List.all_cons]
    cases T f
    · simp
    · simpa using ih
theorem two_plain {t : TypeId} (hp : Tryd.prog.plainKey t = true) (d : Nat) (xs ys : Array Value) (off : Nat) (a b : Value) (r : Bool) (hx : xs[off]? = some a) (hy : ys[off]? = some b) (w : World) (h : (Op.equalIn d t a b).run Tryd.prog w = .ok r w) :
    ∃ a b, (part t xs off).run Tryd.prog w = .ok a w ∧ (part t ys off).run Tryd.prog w = .ok b w ∧ (Op.equalIn d t a b).run Tryd.prog w = .ok r w :=
  ⟨a, b, run_part_plain w hp hx, run_part_plain w hp hy, h⟩
theorem rangeT_below {w w' : World} {b off : Nat} {vs : List Value} (h : w.rangeAt b off vs) (hb : Below w.heap.size w w') (hlt : b < w.heap.size) : w'.rangeAt b off vs :=
  fun j u hu => (hb.cell (p := ⟨b, _, none⟩) hlt).trans (h j u hu)

theorem fieldsV : Tryd.prog.underlying 42 = some (.struct (Tryd.prog.fieldsOf 42)) := by kernel_rfl
theorem stoodV : Tryd.prog.stoodInHeld 42 = false := by kernel_rfl
theorem guardV : Tryd.prog.eqGuardType Tryd.prog.depth 42 = false := by kernel_rfl
/-- what Go's == says of two. -/
def eq5V (x y : I5) : Bool := x.a == y.a && (x.b == y.b && (x.c == y.c && (x.d == y.d && (x.e == y.e))))
theorem eq5V_iff {x y : I5} (hx : Fit5 x) (hy : Fit5 y) : eq5V x y = true ↔ x = y := by
  constructor
  · intro h
    simp only [eq5V, Bool.and_eq_true, beq_iff_eq] at h
    obtain ⟨h1, h2, h3, h4, h5⟩ := h
    obtain ⟨a, b, c, d, e⟩ := x
    obtain ⟨a', b', c', d', e'⟩ := y
    simp only at h1 h2 h3 h4 h5
    subst h1 h2 h3 h4 h5
    rfl
  · rintro rfl
    simp [eq5V]
def t5V (x y : I5) (f : Field) : Bool :=
  match f.offset with
  | 0 => x.a == y.a
  | 1 => x.b == y.b
  | 2 => x.c == y.c
  | 3 => x.d == y.d
  | _ => x.e == y.e
set_option maxHeartbeats 4000000 in
theorem run_equal5V (x y : I5) (w : World) : (Op.equalIn 10000 42 (.agg (clV x).toArray) (.agg (clV y).toArray)).run Tryd.prog w = .ok (eq5V x y) w := by
  have hf := Option.some.inj (fieldsV.symm.trans Tryd.underlying42)
  injection hf with hf
  have h := run_equalIn_struct (P := Tryd.prog) w 9999 42 (clV x).toArray (clV y).toArray fieldsV stoodV
  simp only [Nat.reduceAdd] at h
  have hs : (Op.eqFields 9999 (clV x).toArray (clV y).toArray (Tryd.prog.fieldsOf 42).toList).run Tryd.prog w = .ok (eq5V x y) w := by
    rw [hf]
    refine (two_fields 9999 (clV x).toArray (clV y).toArray w (t5V x y) _ fun f hfm => ?_).trans (by simp [t5V, eq5V])
    simp only [List.mem_cons, List.not_mem_nil, or_false] at hfm
    rcases hfm with rfl | rfl | rfl | rfl | rfl
    · exact ⟨by decide, two_plain (t := 3) (by kernel_rfl) 9999 (clV x).toArray (clV y).toArray 0 _ _ _ rfl rfl w (run_equalIn_int w 9998 3 _ _ _ _ Tryd.underlying3)⟩
    · exact ⟨by decide, two_plain (t := 3) (by kernel_rfl) 9999 (clV x).toArray (clV y).toArray 1 _ _ _ rfl rfl w (run_equalIn_int w 9998 3 _ _ _ _ Tryd.underlying3)⟩
    · exact ⟨by decide, two_plain (t := 3) (by kernel_rfl) 9999 (clV x).toArray (clV y).toArray 2 _ _ _ rfl rfl w (run_equalIn_int w 9998 3 _ _ _ _ Tryd.underlying3)⟩
    · exact ⟨by decide, two_plain (t := 3) (by kernel_rfl) 9999 (clV x).toArray (clV y).toArray 3 _ _ _ rfl rfl w (run_equalIn_int w 9998 3 _ _ _ _ Tryd.underlying3)⟩
    · exact ⟨by decide, two_plain (t := 3) (by kernel_rfl) 9999 (clV x).toArray (clV y).toArray 4 _ _ _ rfl rfl w (run_equalIn_int w 9998 3 _ _ _ _ Tryd.underlying3)⟩
  rw [h, hs]
theorem quiet_neq5V {C : World → Prop} {o : Oper} {a : Act} {K : Act → Prop} (x y : Operand) (ty : TypeId) (ho : o.op = .binOp .neq 42 x y ty) (z u : I5) (hx : a.eval x = .agg (clV z).toArray) (hy : a.eval y = .agg (clV u).toArray)
    (hk : K (a.put o.dst (.bool (!eq5V z u)))) : o.quiet Tryd.prog a C K :=
  ⟨_, fun w' _ => by
    unfold Oper.quietAt execOp
    simp only [ho, hx, hy, Sem.run_bind, Sem.run_pure, Result.andThen_ok, run_eqGuard_agg w' .neq 42 x y _ _ guardV, run_neq_struct, run_equal5V z u w']
    exact ⟨rfl, rfl⟩, hk⟩
theorem quiet_load5V {C : World → Prop} {o : Oper} {a : Act} {K : Act → Prop} (x : Operand) (ho : o.op = .load 42 x) (b off : Nat) (z : I5) (hx : a.eval x = .pointer (some ⟨b, off, none⟩))
    (hC : ∀ w', C w' → w'.rangeAt b off (clV z)) (hk : K (a.put o.dst (.agg (clV z).toArray))) : o.quiet Tryd.prog a C K :=
  ⟨_, fun w' h => by
    have hr := run_loadAt_mid (P := Tryd.prog) w' b off 42 (clV z) _ (hC w' h) Tryd.underlying42 rfl (by rw [info5V, clV_len])
    unfold Oper.quietAt execOp
    simp only [ho, hx, Sem.run_bind, Sem.run_pure, Result.andThen_ok, hr]
    exact ⟨rfl, rfl⟩, hk⟩
set_option maxHeartbeats 8000000 in
theorem same5V_any (A A' : Option Addr) (L L' : List I5) (n m c c' : Nat) (w : World) (h : RowsV w.heap.size w A L) (h' : RowsV w.heap.size w A' L') (hn : L.length = n) (hm : L'.length = m) (hl : n ≤ 100000) (hf : ∀ x ∈ L, Fit5 x) (hf' : ∀ x ∈ L', Fit5 x) :
    Calls Tryd.prog 23 #[.slice A n c, .slice A' m c'] w fun e w' => e = .returned (.bool (decide (L = L'))) ∧ Below w.heap.size w w' := by
  have HT := Lib.hid h; have HT' := Lib.hid h'; have HLN := Lib.hid hn; have HLM := Lib.hid hm
  have HF := Lib.hid (fun (i : Nat) x y (hx : L[i]? = some x) (hy : L'[i]? = some y) => eq5V_iff (hf x (List.mem_of_getElem? hx)) (hf' y (List.mem_of_getElem? hy)))
  obtain ⟨R, hR⟩ : ∃ R, decide (L = L') = R := ⟨_, rfl⟩
  have HR := Lib.hid hR
  rw [hR]
  clear h h' hn hm hf hf' hR
  go_enter Tryd.func23, Tryd.ntmps23
  by_cases hnm : n = m
  · have t2 : ((n : Int) != (m : Int)) = false := by simp [hnm]
    have HNM := Lib.hid hnm
    clear hnm
    go_wp2_with fail
    go_loopw [13] (fun iv wr => ∃ k : Nat, iv = .int .i64 k ∧ k ≤ n ∧ Below w.heap.size w wr ∧ ∀ (i : Nat) x y, i < k → L[i]? = some x → L'[i]? = some y → x = y) (fun iv _ => n - (intOf iv).toNat)
    case atStart => exact ⟨0, rfl, Nat.zero_le _, Below.refl _ _, fun i x y hi => absurd hi (Nat.not_lt_zero _)⟩
    case round =>
      obtain ⟨k, rfl, hk, hb, hall⟩ := hrel
      have HB := Lib.hid hb
      have HALL := Lib.hid hall
      clear hall
      by_cases hlt : k < n
      · obtain ⟨x, hx⟩ : ∃ x, L[k]? = some x := ⟨_, List.getElem?_eq_getElem (by rw [HLN.out]; exact hlt)⟩
        obtain ⟨y, hy⟩ : ∃ y, L'[k]? = some y := ⟨_, List.getElem?_eq_getElem (by rw [HLM.out, ← HNM.out]; exact hlt)⟩
        obtain ⟨g, off, rfl, hg, hr⟩ := HT.out k x hx
        obtain ⟨g', off', rfl, hg', hr'⟩ := HT'.out k y hy
        have k0 : (0 : Int) ≤ (k : Int) := by omega
        have k1 : (k : Int) < (n : Int) := by omega
        have k2 : (k : Int) < (m : Int) := by rw [← HNM.out]; exact k1
        have HX := Lib.hid hx; have HY := Lib.hid hy
        have HEQ := Lib.hid (HF.out k x y hx hy)
        have HR1 : Hid (∀ w', Cls wr.heap.size wr w' → w'.rangeAt g (off + k * 5) (clV x)) := fun w' hw => rangeT_below hr (hb.trans (hw.mono hb.size)) hg
        have HR2 : Hid (∀ w', Cls wr.heap.size wr w' → w'.rangeAt g' (off' + k * 5) (clV y)) := fun w' hw => rangeT_below hr' (hb.trans (hw.mono hb.size)) hg'
        clear hr hr' hg hg' hb hx hy
        go_upto_region 6 with fail
        refine wp_region_cls (by kernel_rfl) (by kernel_rfl) ?_
        repeat
          first
          | go_big_quiet_skip
          | (go_big_quiet_want
             first
             | (refine quiet_load5V _ rfl g (off + k * 5) x rfl (fun w' h => HR1.out w' h) ?_; go_simp; go_big_quiet_on)
             | (refine quiet_load5V _ rfl g' (off' + k * 5) y rfl (fun w' h => HR2.out w' h) ?_; go_simp; go_big_quiet_on)
             | (refine quiet_neq5V _ _ _ rfl x y rfl rfl ?_; go_simp; go_big_quiet_on)
             | (go_big_quiet_op
                first
                | go_big_quiet_on
                | (refine ⟨_, fun _ _ => rfl, ?_⟩; go_big_quiet_on)))
        refine wpQuiet_nil ?_
        intro w4 h4
        have HB4 := Lib.hid (HB.out.trans (h4.bl.mono HB.out.size))
        clear h4
        cases he : eq5V x y
        · have t5 : (!eq5V x y) = true := by rw [he]; rfl
          have HNE : Hid (R = false) := by
            show _ = _
            rw [← HR.out]
            refine decide_eq_false fun e => ?_
            have hxx := HX.out; have hyy := HY.out
            rw [e, hyy] at hxx
            cases hxx
            have := HEQ.out.2 rfl
            rw [he] at this; cases this
          clear he
          go_wp2_with fail
          go_ret
          rw [HNE.out]
          exact ⟨rfl, HB4.out⟩
        · have t5 : (!eq5V x y) = false := by rw [he]; rfl
          have HE := Lib.hid (HEQ.out.1 he)
          clear he
          go_wp2_with fail
          go_roundw
          case rel =>
            refine ⟨k + 1, by go_num, by omega, HB4.out, fun i u v hi hu hv => ?_⟩
            rcases Nat.lt_succ_iff_lt_or_eq.1 hi with hi | rfl
            · exact HALL.out i u v hi hu hv
            · rw [HX.out] at hu; rw [HY.out] at hv
              cases hu; cases hv; exact HE.out
          case measure => simp [intOf]; omega
      · obtain rfl : k = n := by omega
        have tk : ¬ (k : Int) < (k : Int) := by omega
        have HYES : Hid (R = true) := by
          show _ = _
          rw [← HR.out]
          refine decide_eq_true (List.ext_getElem? fun i => ?_)
          by_cases hi : i < k
          · obtain ⟨x, hx⟩ : ∃ x, L[i]? = some x := ⟨_, List.getElem?_eq_getElem (by rw [HLN.out]; exact hi)⟩
            obtain ⟨y, hy⟩ : ∃ y, L'[i]? = some y := ⟨_, List.getElem?_eq_getElem (by rw [HLM.out, ← HNM.out]; exact hi)⟩
            rw [hx, hy, HALL.out i x y hi hx hy]
          · rw [List.getElem?_eq_none (by rw [HLN.out]; omega), List.getElem?_eq_none (by rw [HLM.out, ← HNM.out]; omega)]
        clear hb
        go_wp2_with fail
        go_ret
        rw [HYES.out]
        exact ⟨rfl, HB.out⟩
  · have t2 : ((n : Int) != (m : Int)) = true := by simpa using fun z : (n : Int) = m => hnm (by exact_mod_cast z)
    have HNE : Hid (R = false) := by
      show _ = _
      rw [← HR.out]
      refine decide_eq_false fun e => hnm ?_
      rw [← HLN.out, ← HLM.out, e]
    go_wp2_with fail
    go_ret
    rw [HNE.out]
    exact ⟨rfl, Below.refl _ _⟩

theorem fieldsN : Tryd.prog.underlying 46 = some (.struct (Tryd.prog.fieldsOf 46)) := by kernel_rfl
theorem stoodN : Tryd.prog.stoodInHeld 46 = false := by kernel_rfl
theorem guardN : Tryd.prog.eqGuardType Tryd.prog.depth 46 = false := by kernel_rfl
/-- what Go's == says of two. -/
def eq5N (x y : I5) : Bool := x.a == y.a && (x.b == y.b && (x.c == y.c && (x.d == y.d && ((toU x.e : Int) == (toU y.e : Int)))))
theorem eq5N_iff {x y : I5} (hx : Fit5 x) (hy : Fit5 y) : eq5N x y = true ↔ x = y := by
  constructor
  · intro h
    simp only [eq5N, Bool.and_eq_true, beq_iff_eq] at h
    obtain ⟨h1, h2, h3, h4, h5⟩ := h
    obtain ⟨a, b, c, d, e⟩ := x
    obtain ⟨a', b', c', d', e'⟩ := y
    simp only at h1 h2 h3 h4 h5
    have h6 := toU_inj hx.2.2.2.2 hy.2.2.2.2 h5
    simp only at h6
    clear h5
    have h5 := h6
    clear h6
    subst h1 h2 h3 h4 h5
    rfl
  · rintro rfl
    simp [eq5N]
def t5N (x y : I5) (f : Field) : Bool :=
  match f.offset with
  | 0 => x.a == y.a
  | 1 => x.b == y.b
  | 2 => x.c == y.c
  | 3 => x.d == y.d
  | _ => (toU x.e : Int) == (toU y.e : Int)
set_option maxHeartbeats 4000000 in
theorem run_equal5N (x y : I5) (w : World) : (Op.equalIn 10000 46 (.agg (clN x).toArray) (.agg (clN y).toArray)).run Tryd.prog w = .ok (eq5N x y) w := by
  have hf := Option.some.inj (fieldsN.symm.trans Tryd.underlying46)
  injection hf with hf
  have h := run_equalIn_struct (P := Tryd.prog) w 9999 46 (clN x).toArray (clN y).toArray fieldsN stoodN
  simp only [Nat.reduceAdd] at h
  have hs : (Op.eqFields 9999 (clN x).toArray (clN y).toArray (Tryd.prog.fieldsOf 46).toList).run Tryd.prog w = .ok (eq5N x y) w := by
    rw [hf]
    refine (two_fields 9999 (clN x).toArray (clN y).toArray w (t5N x y) _ fun f hfm => ?_).trans (by simp [t5N, eq5N])
    simp only [List.mem_cons, List.not_mem_nil, or_false] at hfm
    rcases hfm with rfl | rfl | rfl | rfl | rfl
    · exact ⟨by decide, two_plain (t := 3) (by kernel_rfl) 9999 (clN x).toArray (clN y).toArray 0 _ _ _ rfl rfl w (run_equalIn_int w 9998 3 _ _ _ _ Tryd.underlying3)⟩
    · exact ⟨by decide, two_plain (t := 3) (by kernel_rfl) 9999 (clN x).toArray (clN y).toArray 1 _ _ _ rfl rfl w (run_equalIn_int w 9998 3 _ _ _ _ Tryd.underlying3)⟩
    · exact ⟨by decide, two_plain (t := 3) (by kernel_rfl) 9999 (clN x).toArray (clN y).toArray 2 _ _ _ rfl rfl w (run_equalIn_int w 9998 3 _ _ _ _ Tryd.underlying3)⟩
    · exact ⟨by decide, two_plain (t := 3) (by kernel_rfl) 9999 (clN x).toArray (clN y).toArray 3 _ _ _ rfl rfl w (run_equalIn_int w 9998 3 _ _ _ _ Tryd.underlying3)⟩
    · exact ⟨by decide, two_plain (t := 44) (by kernel_rfl) 9999 (clN x).toArray (clN y).toArray 4 _ _ _ rfl rfl w (run_equalIn_int w 9998 44 _ _ _ _ Tryd.underlying44)⟩
  rw [h, hs]
theorem quiet_neq5N {C : World → Prop} {o : Oper} {a : Act} {K : Act → Prop} (x y : Operand) (ty : TypeId) (ho : o.op = .binOp .neq 46 x y ty) (z u : I5) (hx : a.eval x = .agg (clN z).toArray) (hy : a.eval y = .agg (clN u).toArray)
    (hk : K (a.put o.dst (.bool (!eq5N z u)))) : o.quiet Tryd.prog a C K :=
  ⟨_, fun w' _ => by
    unfold Oper.quietAt execOp
    simp only [ho, hx, hy, Sem.run_bind, Sem.run_pure, Result.andThen_ok, run_eqGuard_agg w' .neq 46 x y _ _ guardN, run_neq_struct, run_equal5N z u w']
    exact ⟨rfl, rfl⟩, hk⟩
theorem quiet_load5N {C : World → Prop} {o : Oper} {a : Act} {K : Act → Prop} (x : Operand) (ho : o.op = .load 46 x) (b off : Nat) (z : I5) (hx : a.eval x = .pointer (some ⟨b, off, none⟩))
    (hC : ∀ w', C w' → w'.rangeAt b off (clN z)) (hk : K (a.put o.dst (.agg (clN z).toArray))) : o.quiet Tryd.prog a C K :=
  ⟨_, fun w' h => by
    have hr := run_loadAt_mid (P := Tryd.prog) w' b off 46 (clN z) _ (hC w' h) Tryd.underlying46 rfl (by rw [info5N, clN_len])
    unfold Oper.quietAt execOp
    simp only [ho, hx, Sem.run_bind, Sem.run_pure, Result.andThen_ok, hr]
    exact ⟨rfl, rfl⟩, hk⟩
set_option maxHeartbeats 8000000 in
theorem same5N_any (A A' : Option Addr) (L L' : List I5) (n m c c' : Nat) (w : World) (h : RowsN w.heap.size w A L) (h' : RowsN w.heap.size w A' L') (hn : L.length = n) (hm : L'.length = m) (hl : n ≤ 100000) (hf : ∀ x ∈ L, Fit5 x) (hf' : ∀ x ∈ L', Fit5 x) :
    Calls Tryd.prog 24 #[.slice A n c, .slice A' m c'] w fun e w' => e = .returned (.bool (decide (L = L'))) ∧ Below w.heap.size w w' := by
  have HT := Lib.hid h; have HT' := Lib.hid h'; have HLN := Lib.hid hn; have HLM := Lib.hid hm
  have HF := Lib.hid (fun (i : Nat) x y (hx : L[i]? = some x) (hy : L'[i]? = some y) => eq5N_iff (hf x (List.mem_of_getElem? hx)) (hf' y (List.mem_of_getElem? hy)))
  obtain ⟨R, hR⟩ : ∃ R, decide (L = L') = R := ⟨_, rfl⟩
  have HR := Lib.hid hR
  rw [hR]
  clear h h' hn hm hf hf' hR
  go_enter Tryd.func24, Tryd.ntmps24
  by_cases hnm : n = m
  · have t2 : ((n : Int) != (m : Int)) = false := by simp [hnm]
    have HNM := Lib.hid hnm
    clear hnm
    go_wp2_with fail
    go_loopw [13] (fun iv wr => ∃ k : Nat, iv = .int .i64 k ∧ k ≤ n ∧ Below w.heap.size w wr ∧ ∀ (i : Nat) x y, i < k → L[i]? = some x → L'[i]? = some y → x = y) (fun iv _ => n - (intOf iv).toNat)
    case atStart => exact ⟨0, rfl, Nat.zero_le _, Below.refl _ _, fun i x y hi => absurd hi (Nat.not_lt_zero _)⟩
    case round =>
      obtain ⟨k, rfl, hk, hb, hall⟩ := hrel
      have HB := Lib.hid hb
      have HALL := Lib.hid hall
      clear hall
      by_cases hlt : k < n
      · obtain ⟨x, hx⟩ : ∃ x, L[k]? = some x := ⟨_, List.getElem?_eq_getElem (by rw [HLN.out]; exact hlt)⟩
        obtain ⟨y, hy⟩ : ∃ y, L'[k]? = some y := ⟨_, List.getElem?_eq_getElem (by rw [HLM.out, ← HNM.out]; exact hlt)⟩
        obtain ⟨g, off, rfl, hg, hr⟩ := HT.out k x hx
        obtain ⟨g', off', rfl, hg', hr'⟩ := HT'.out k y hy
        have k0 : (0 : Int) ≤ (k : Int) := by omega
        have k1 : (k : Int) < (n : Int) := by omega
        have k2 : (k : Int) < (m : Int) := by rw [← HNM.out]; exact k1
        have HX := Lib.hid hx; have HY := Lib.hid hy
        have HEQ := Lib.hid (HF.out k x y hx hy)
        have HR1 : Hid (∀ w', Cls wr.heap.size wr w' → w'.rangeAt g (off + k * 5) (clN x)) := fun w' hw => rangeT_below hr (hb.trans (hw.mono hb.size)) hg
        have HR2 : Hid (∀ w', Cls wr.heap.size wr w' → w'.rangeAt g' (off' + k * 5) (clN y)) := fun w' hw => rangeT_below hr' (hb.trans (hw.mono hb.size)) hg'
        clear hr hr' hg hg' hb hx hy
        go_upto_region 6 with fail
        refine wp_region_cls (by kernel_rfl) (by kernel_rfl) ?_
        repeat
          first
          | go_big_quiet_skip
          | (go_big_quiet_want
             first
             | (refine quiet_load5N _ rfl g (off + k * 5) x rfl (fun w' h => HR1.out w' h) ?_; go_simp; go_big_quiet_on)
             | (refine quiet_load5N _ rfl g' (off' + k * 5) y rfl (fun w' h => HR2.out w' h) ?_; go_simp; go_big_quiet_on)
             | (refine quiet_neq5N _ _ _ rfl x y rfl rfl ?_; go_simp; go_big_quiet_on)
             | (go_big_quiet_op
                first
                | go_big_quiet_on
                | (refine ⟨_, fun _ _ => rfl, ?_⟩; go_big_quiet_on)))
        refine wpQuiet_nil ?_
        intro w4 h4
        have HB4 := Lib.hid (HB.out.trans (h4.bl.mono HB.out.size))
        clear h4
        cases he : eq5N x y
        · have t5 : (!eq5N x y) = true := by rw [he]; rfl
          have HNE : Hid (R = false) := by
            show _ = _
            rw [← HR.out]
            refine decide_eq_false fun e => ?_
            have hxx := HX.out; have hyy := HY.out
            rw [e, hyy] at hxx
            cases hxx
            have := HEQ.out.2 rfl
            rw [he] at this; cases this
          clear he
          go_wp2_with fail
          go_ret
          rw [HNE.out]
          exact ⟨rfl, HB4.out⟩
        · have t5 : (!eq5N x y) = false := by rw [he]; rfl
          have HE := Lib.hid (HEQ.out.1 he)
          clear he
          go_wp2_with fail
          go_roundw
          case rel =>
            refine ⟨k + 1, by go_num, by omega, HB4.out, fun i u v hi hu hv => ?_⟩
            rcases Nat.lt_succ_iff_lt_or_eq.1 hi with hi | rfl
            · exact HALL.out i u v hi hu hv
            · rw [HX.out] at hu; rw [HY.out] at hv
              cases hu; cases hv; exact HE.out
          case measure => simp [intOf]; omega
      · obtain rfl : k = n := by omega
        have tk : ¬ (k : Int) < (k : Int) := by omega
        have HYES : Hid (R = true) := by
          show _ = _
          rw [← HR.out]
          refine decide_eq_true (List.ext_getElem? fun i => ?_)
          by_cases hi : i < k
          · obtain ⟨x, hx⟩ : ∃ x, L[i]? = some x := ⟨_, List.getElem?_eq_getElem (by rw [HLN.out]; exact hi)⟩
            obtain ⟨y, hy⟩ : ∃ y, L'[i]? = some y := ⟨_, List.getElem?_eq_getElem (by rw [HLM.out, ← HNM.out]; exact hi)⟩
            rw [hx, hy, HALL.out i x y hi hx hy]
          · rw [List.getElem?_eq_none (by rw [HLN.out]; omega), List.getElem?_eq_none (by rw [HLM.out, ← HNM.out]; omega)]
        clear hb
        go_wp2_with fail
        go_ret
        rw [HYES.out]
        exact ⟨rfl, HB.out⟩
  · have t2 : ((n : Int) != (m : Int)) = true := by simpa using fun z : (n : Int) = m => hnm (by exact_mod_cast z)
    have HNE : Hid (R = false) := by
      show _ = _
      rw [← HR.out]
      refine decide_eq_false fun e => hnm ?_
      rw [← HLN.out, ← HLM.out, e]
    go_wp2_with fail
    go_ret
    rw [HNE.out]
    exact ⟨rfl, Below.refl _ _⟩
end Go.Proofs.YtchhenpijbecaaaDoor
