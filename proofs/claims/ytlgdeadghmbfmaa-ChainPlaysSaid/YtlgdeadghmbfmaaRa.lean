/- The law file's taken and alike. -/
import Derived.Test.YtlgdeadghmbfmaaRy
import Derived.Test.YtlgdeadghmbfmaaRe
namespace Go.Proofs.Ytlgdeadghmbfmaa
open Go.RowKit Go.Shelf
attribute [local go_sem] Oper.semAt_some

theorem zs_get {z : Nat → Int} {k i : Nat} (h : i < k) : (zs z k)[i]?.getD 0 = z i := by simp [zs, h]
set_option maxHeartbeats 1000000 in
theorem taken_any (A : Option Addr) (len cap : Nat) (z : Nat → Int) (i : Int) (w : World) (hI : IntsIn w A len z) :
    Calls Try.prog 55 #[.slice A len cap, .int .i64 i] w fun e w' => e = .returned (.tuple #[.int .i64 (if there (zs z len) i then (zs z len)[i.toNat]?.getD 0 else 0), .bool (there (zs z len) i)]) ∧ w = w' := by
  by_cases h : i < 0 ∨ (len : Int) ≤ i
  · rw [there_no (by rw [zs_length]; exact h)]
    by_cases h0 : i < 0
    · go_enter Try.func55, Try.ntmps55
      go_wp2
      go_ret2
      exact ⟨rfl, rfl⟩
    · have h1 : (len : Int) ≤ i := by omega
      clear h
      go_enter Try.func55, Try.ntmps55
      go_wp2
      go_ret2
      exact ⟨rfl, rfl⟩
  · obtain ⟨k, rfl⟩ : ∃ k : Nat, i = k := ⟨i.toNat, by omega⟩
    have hk : k < len := by omega
    obtain ⟨b, off, rfl, _, hc⟩ := hI k hk
    rw [there_yes (by rw [zs_length]; exact hk), Int.toNat_natCast, zs_get hk]
    have t1 : decide (len ≤ k) = false := by simp; omega
    have t2 : ¬ len ≤ k := by omega
    have k0 : (0 : Int) ≤ (k : Int) := by omega
    have k1 : (k : Int) < (len : Int) := by omega
    clear h
    go_enter Try.func55, Try.ntmps55
    go_wp2
    go_ret2
    exact ⟨rfl, rfl⟩
theorem func_nil (k : Nat) (a b : Array Value) (w : World) : (binOp .eql 42 (.func (.func k) a b) Value.nilFunc).run Try.prog w = .ok (.bool false) w := by
  have hu := Try.underlying42
  have h : ∀ d : Nat, (Op.equalIn (d + 1) 42 (.func (.func k) a b) Value.nilFunc).run Try.prog w = .ok false w := fun d => by simp [Op.equalIn, run_underlying hu]
  simp only [binOp]
  simp [Op.equal, Op.maxDepth, h 9999]
/-- What holds between two rounds of alike's loop. -/
def AlikeI (w : World) (A : Option Addr) (len cap : Nat) (fr : Int) (pre : List (Int × Int)) (W : World) : Prop :=
  ∃ k : Nat, k = pre.length ∧ Blk W w.heap.size 27 #[.slice A len cap] ∧ Blk W (w.heap.size + 1) 4 #[.bool false] ∧ Blk W (w.heap.size + 4) 3 #[.int .i64 (fr + k)] ∧
    Blk W (w.heap.size + 5) 3 #[.int .i64 k] ∧ But Nob w W
theorem Blk.own_ {w w' : World} {g : Nat} {t : TypeId} {cs : Array Value} {row : Option Nat} (h : Blk w g t cs) (hg : w.grownBy w' row) (hr : ∀ r, row = some r → ∃ o : Obj, w.heap[r]? = some o ∧ o.isCells = false) : Blk w' g t cs := by
  refine (hg.block g h.lt (fun e => ?_)).trans h
  obtain ⟨o, ho, hc⟩ := hr g e.symm
  unfold Blk at h
  rw [h] at ho; cases ho; cases hc
/-- A round has met what the list has not. -/
def AlikeX (l : List Int) (fr : Int) (pre : List (Int × Int)) : Prop := ∃ pre0 x, pre = pre0 ++ [x] ∧ x ≠ (fr + (pre0.length : Int), (tl l fr)[pre0.length]?.getD 0)
theorem itm_last {l : List Int} {fr : Int} {k : Nat} {pre0 : List (Int × Int)} {x : Int × Int} (h : itm l fr k = pre0 ++ [x]) : x = (fr + (pre0.length : Int), (tl l fr)[pre0.length]?.getD 0) := by
  have hl := congrArg List.length h
  rw [itm_length, List.length_append] at hl
  obtain rfl : k = pre0.length + 1 := hl
  rw [itm_succ] at h
  have := List.append_inj' h rfl
  simpa using this.2.symm
theorem tl_at {l : List Int} {fr : Int} {k : Nat} (h : k < (tl l fr).length) : there l (fr + k) = true ∧ l[(fr + (k : Int)).toNat]?.getD 0 = (tl l fr)[k]?.getD 0 := by
  by_cases q : fr < 0 ∨ (l.length : Int) ≤ fr
  · rw [tl_none q] at h; simp at h
  · obtain ⟨f, rfl⟩ : ∃ f : Nat, fr = f := ⟨fr.toNat, by omega⟩
    have hf : f < l.length := by omega
    rw [tl_some hf] at h ⊢
    rw [List.length_drop] at h
    rw [show (f : Int) + (k : Int) = ((f + k : Nat) : Int) by omega, there_yes (by omega), Int.toNat_natCast, List.getElem?_drop]
    exact ⟨rfl, rfl⟩
theorem alikeI_own (w : World) (A : Option Addr) (len cap : Nat) (fr : Int) (B : Nat) (hB : w.heap.size ≤ B) : OwnFrom B (AlikeI w A len cap fr) := by
  rintro s W W' row ⟨k, e, h0, h1, h4, h5, hG⟩ hg hr
  have hr' : ∀ r, row = some r → ∃ o : Obj, W.heap[r]? = some o ∧ o.isCells = false := fun r e => (hr r e).2
  exact ⟨k, e, h0.own_ hg hr', h1.own_ hg hr', h4.own_ hg hr', h5.own_ hg hr', hG.grown hg fun r e => .inr (Nat.le_trans hB (hr r e).1)⟩
set_option maxRecDepth 100000 in
set_option maxHeartbeats 4000000 in
theorem alike_any (p G : Option Nat) (room : Nat) (A : Option Addr) (len cap : Nat) (z : Nat → Int) (fr : Int) (w : World) (hlen : len ≤ 4096) (hI : IntsIn w A len z) (h : RgP p G (zs z len) room w) :
    Calls Try.prog 19 #[ptr p, .slice A len cap, .int .i64 fr] w fun e w' => e = .returned (.bool true) ∧ But Nob w w' := by
  refine (callsIn_wide (n := 3)).1 ?_
  refine callsIn_of_wp_marks Try.func19 rfl trivial ?_ rfl
  refine wpIn_wide.2 ?_
  simp only [Try.ntmps19, List.size_toArray, List.length_cons, List.length_nil, Nat.reduceAdd, Nat.reduceSub, Array.replicate_succ, Array.replicate_zero, List.push_toArray, List.append_toArray, List.nil_append, List.cons_append]
  have hfn := func_nil
  have HN : Hid (∀ w1, But Nob w w1 → Calls Try.prog 26 #[ptr p] w1 fun e w' => e = .returned (.int .i64 len) ∧ w1 = w') := fun w1 h1 => by
    cases p with
    | none =>
      obtain rfl : len = 0 := by have := zs_length z len; rw [show zs z len = [] from h] at this; exact this.symm
      exact len_nil w1
    | some b => have := len_any b len w1 (by have := (Rg.but (show Rg b G _ room w from h) h1 fun _ _ x => x).head.1; rwa [zs_length] at this); exact this
  go_wp2_with fail
  refine (each_any _ fr _).mono ?_
  rintro e w1 ⟨rfl, hw1⟩
  have b0 : Blk w1 w.heap.size 27 #[.slice A len cap] := by subst hw1; exact (((Blk.new w _ _).alloc _).alloc _).alloc _
  have b1 : Blk w1 (w.heap.size + 1) 4 #[.bool false] := by
    subst hw1; have := Blk.new (w.alloc (.cells #[.slice A len cap] 27)) 4 #[.bool false]
    rw [World.size_alloc] at this; exact (this.alloc _).alloc _
  have b2 : Blk w1 (w.heap.size + 2) 23 #[ptr p] := by
    subst hw1; have := Blk.new ((w.alloc (.cells #[.slice A len cap] 27)).alloc (.cells #[.bool false] 4)) 23 #[ptr p]
    rw [World.size_alloc, World.size_alloc] at this; exact this.alloc _
  have b3 : Blk w1 (w.heap.size + 3) 3 #[.int .i64 fr] := by
    subst hw1; have := Blk.new (((w.alloc (.cells #[.slice A len cap] 27)).alloc (.cells #[.bool false] 4)).alloc (.cells #[ptr p] 23)) 3 #[.int .i64 fr]
    rw [World.size_alloc, World.size_alloc, World.size_alloc] at this; exact this
  have hz : w1.heap.size = w.heap.size + 4 := by subst hw1; simp
  have hG : But Nob w w1 := by subst hw1; exact ((((But.refl _ _).alloc _).alloc _).alloc _).alloc _
  simp only [World.size_alloc]
  clear hw1
  have HG := Lib.hid hG; have HZ := Lib.hid hz
  have c0 := b0.cell 0
  simp only [List.getElem?_toArray, List.getElem?_cons_zero] at c0
  have HQ : Hid (∀ n, Calls Try.prog 26 #[ptr p] (w1.drewN n) fun e w' => e = .returned (.int .i64 len) ∧ w' = w1.drewN n) := fun n => (HN.out _ (hG.drewN n)).mono fun _ _ ⟨q1, q2⟩ => ⟨q1, q2.symm⟩
  clear hG hz
  simp only [Nat.add_assoc, Nat.reduceAdd]
  go_wp2_with fail
  go_quiet ((go_at_call 26; exact Calls.quiet_of_same (HQ.out _)))
  have hG2 : But Nob w (w1.drewN nq) := HG.out.drewN nq
  replace b0 : Blk (w1.drewN nq) w.heap.size 27 #[.slice A len cap] := b0
  replace b1 : Blk (w1.drewN nq) (w.heap.size + 1) 4 #[.bool false] := b1
  replace b2 : Blk (w1.drewN nq) (w.heap.size + 2) 23 #[ptr p] := b2
  replace b3 : Blk (w1.drewN nq) (w.heap.size + 3) 3 #[.int .i64 fr] := b3
  have hz : (w1.drewN nq).heap.size = w.heap.size + 4 := HZ.out
  clear c0 HG HZ HQ hfn
  generalize w1.drewN nq = w2 at *
  clear w1
  have HZ := Lib.hid hz
  have HB0 := Lib.hid b0; have HB1 := Lib.hid b1; have HB2 := Lib.hid b2; have HB3 := Lib.hid b3; have HG2 := Lib.hid hG2
  clear b0 b1 b2 b3 hG2
  have hsz : w2.heap.size = w.heap.size + 4 := hz
  clear hz
  go_wp2_with fail
  simp only [Nat.add_assoc, Nat.reduceAdd]
  obtain ⟨w3, hw3⟩ : ∃ w3, (w2.alloc (.cells #[.int .i64 fr] 3)).alloc (.cells #[.int .i64 0] 3) = w3 := ⟨_, rfl⟩
  have hs3 : w3.heap.size = w.heap.size + 6 := by rw [← hw3]; simp [hsz]
  have b0 : Blk w3 w.heap.size 27 #[.slice A len cap] := by rw [← hw3]; exact (HB0.out.alloc _).alloc _
  have b1 : Blk w3 (w.heap.size + 1) 4 #[.bool false] := by rw [← hw3]; exact (HB1.out.alloc _).alloc _
  have b2 : Blk w3 (w.heap.size + 2) 23 #[ptr p] := by rw [← hw3]; exact (HB2.out.alloc _).alloc _
  have b3 : Blk w3 (w.heap.size + 3) 3 #[.int .i64 fr] := by rw [← hw3]; exact (HB3.out.alloc _).alloc _
  have b4 : Blk w3 (w.heap.size + 4) 3 #[.int .i64 (fr + (0 : Nat))] := by
    have := (Blk.new w2 3 #[.int .i64 fr]).alloc (.cells #[.int .i64 0] 3)
    rw [hw3, hsz] at this; simpa using this
  have b5 : Blk w3 (w.heap.size + 5) 3 #[.int .i64 ((0 : Nat) : Int)] := by
    have := Blk.new (w2.alloc (.cells #[.int .i64 fr] 3)) 3 #[.int .i64 0]
    rw [World.size_alloc, hsz, hw3] at this; exact this
  have hG3 : But Nob w w3 := by rw [← hw3]; exact (HG2.out.alloc _).alloc _
  have hp3 : RgP p G (zs z len) room w3 := by
    cases p with
    | none => exact h
    | some b => exact Rg.but (show Rg b G _ room w from h) hG3 fun _ _ x => x
  rw [hw3]
  clear hw3 HB0 HB1 HB2 HB3 HG2 HN HZ hsz
  refine (wpIn_wide (n := 3)).1 ?_
  have hst := each_stops (3 - 1) (by omega) (fun k => k = w.heap.size + 4 ∨ k = w.heap.size + 5) p G (zs z len) room fr (w.heap.size + 2) (w.heap.size + 3) w3 (fun k hk => by rcases hk with rfl | rfl <;> omega) b2 b3 (by omega) hp3 (by rw [zs_length]; exact hlen)
  refine wpIn_rangeFunc_ownG rfl (by omega) (gf := 60) rfl trivial (enters_of Try.func60 (by kernel_rfl) rfl) hst (fun h k => ButC.trans h k) (fun W l o o' _ hl ho _ => butC_b W l o o' hl ho) (Below.refl _ _) (fun _ => rfl)
    (AlikeI w A len cap fr) (fun _ pre _ => AlikeX (zs z len) fr pre) (alikeI_own w A len cap fr w3.heap.size (by omega)) (fun _ _ _ _ _ h _ _ => h)
    ⟨0, rfl, b0, b1, b4, b5, hG3⟩
    (fun x : Int × Int => { tmps := #[ptr p, Value.slice A len cap, Value.int .i64 fr, undef, Value.pointer (some ⟨w.heap.size, 0, none⟩), undef, Value.pointer (some ⟨w.heap.size + 1, 0, none⟩), Value.func (Fn.func 60) #[] #[Value.pointer (some ⟨w.heap.size + 2, 0, none⟩), Value.pointer (some ⟨w.heap.size + 3, 0, none⟩)], Value.pointer (some ⟨w.heap.size + 4, 0, none⟩), Value.pointer (some ⟨w.heap.size + 5, 0, none⟩), Value.int .i64 x.1, Value.int .i64 x.2, undef, undef, undef, ptr p, Value.int .i64 fr, Value.func (Fn.func 60) #[] #[Value.pointer (some ⟨w.heap.size + 2, 0, none⟩), Value.pointer (some ⟨w.heap.size + 3, 0, none⟩)], Value.func (Fn.func 60) #[] #[Value.pointer (some ⟨w.heap.size + 2, 0, none⟩), Value.pointer (some ⟨w.heap.size + 3, 0, none⟩)], Value.bool false, Value.bool false, ptr p, Value.int .i64 len, Value.slice A len cap, Value.int .i64 len, Value.bool false, Value.bool false, Value.int .i64 fr, Value.func (Fn.func 60) #[] #[Value.pointer (some ⟨w.heap.size + 2, 0, none⟩), Value.pointer (some ⟨w.heap.size + 3, 0, none⟩)], Value.int .i64 x.1, Value.int .i64 x.2, undef, undef, undef, undef, undef, undef, undef, undef, undef, undef, undef, undef, undef, undef, undef, undef, undef, undef, undef, undef, undef, undef, undef, undef, undef, undef, undef, undef, undef, undef, undef, undef, undef, undef, undef, undef, undef], defers := [] }) ?assign ?body ?done ?stop
  case assign =>
    intro l x W K hK
    simp only [enc2]
    gi_wp2
    exact hK
  case body =>
    rintro l x0 x W ⟨k, hk, h0, h1, h4, h5, hG⟩ hlen'
    obtain ⟨x1, x2⟩ := x
    have hkl : k < (tl (zs z len) fr).length := by rw [hk]; exact hlen'
    obtain ⟨hth, hgt⟩ := tl_at hkl
    have ht := taken_any A len cap z x1 W (hI.below (hG.below (Nat.le_refl _) fun _ _ x => x.elim))
    have c0 := h0.cell 0; have c4 := h4.cell 0; have c5 := h5.cell 0
    have f1 := h1.free 0; have f4 := h4.free 0; have f5 := h5.free 0
    have c1 := h1.cell 0
    simp only [List.getElem?_toArray, List.getElem?_cons_zero] at c0 c1 c4 c5
    have HG := Lib.hid hG; have HK := Lib.hid hk; have HTH := Lib.hid hth; have HGT := Lib.hid hgt
    have H0 := Lib.hid h0; have H1 := Lib.hid h1; have H4 := Lib.hid h4; have H5 := Lib.hid h5
    clear hG hk hth hgt h0 h1 h4 h5 hst
    by_cases e1 : x1 = fr + k
    · subst e1
      rw [HTH.out, if_pos rfl, HGT.out] at ht
      obtain ⟨v, hv⟩ : ∃ v, v = (tl (zs z len) fr)[k]?.getD 0 := ⟨_, rfl⟩
      rw [← hv] at ht
      have HV := Lib.hid hv; clear hv
      have hfr : 0 ≤ fr ∧ fr < 4096 := by
        by_cases q : fr < 0 ∨ ((zs z len).length : Int) ≤ fr
        · rw [tl_none q] at hkl; simp at hkl
        · rw [zs_length] at q; omega
      have hkk : k ≤ 4096 := by
        have : (tl (zs z len) fr).length ≤ (zs z len).length := by unfold tl; split <;> simp
        rw [zs_length] at this; omega
      obtain ⟨hfr0, hfr1⟩ := hfr
      have q1 : IntKind.i64.wrap (fr + (k : Int) + 1) = fr + (k : Int) + 1 := IntWalk.i64_in _ (by omega)
      have q2 : IntKind.i64.wrap ((k : Int) + 1) = (k : Int) + 1 := IntWalk.i64_in _ (by omega)
      have HT := Lib.hid ht; clear ht
      by_cases e2 : x2 = v
      · subst e2
        have t1 : ((fr + (k : Int)) != fr + (k : Int)) = false := by simp
        have t2 : (x2 != x2) = false := by simp
        gi_wp2_with (refine ⟨trivial, ?_⟩; gi_at_call 55; (refine (CallsIn.inRound l (callsIn_wide.2 HT.out)).mono ?_); rintro e w' ⟨rfl, rfl⟩)
        refine ⟨(((KeepsOthers.setCell _ _ _).trans (KeepsOthers.setCell _ _ _)).from _), (But.cells (((But.refl _ _).set _ _ (.inl (.inl rfl))).set _ _ (.inl (.inr rfl)))), k + 1, by rw [List.length_append, HK.out]; rfl, ?_, ?_, ?_, ?_, ?_⟩
        · exact (H0.out.far (by show _ ≠ w.heap.size + 4; omega) _).far (by show _ ≠ w.heap.size + 5; omega) _
        · exact (H1.out.far (by show _ ≠ w.heap.size + 4; omega) _).far (by show _ ≠ w.heap.size + 5; omega) _
        · have := (H4.out.set_ 0 (.int .i64 (fr + (k : Int) + 1))).far (p := ⟨w.heap.size + 5, 0, none⟩) (by show _ ≠ w.heap.size + 5; omega) (.int .i64 ((k : Int) + 1))
          rw [show fr + ((k + 1 : Nat) : Int) = fr + (k : Int) + 1 by omega]; exact this
        · have := (H5.out.far (p := ⟨w.heap.size + 4, 0, none⟩) (by show _ ≠ w.heap.size + 4; omega) (.int .i64 (fr + (k : Int) + 1))).set_ 0 (.int .i64 ((k : Int) + 1))
          rw [show ((k + 1 : Nat) : Int) = (k : Int) + 1 by omega]; exact this
        · exact (HG.out.set _ _ (.inr (by show _ ≤ w.heap.size + 4; omega))).set _ _ (.inr (by show _ ≤ w.heap.size + 5; omega))
      · have t1 : ((fr + (k : Int)) != fr + (k : Int)) = false := by simp
        have t2 : (x2 != v) = true := by simpa using e2
        have HE := Lib.hid e2; clear e2
        gi_wp2_with (refine ⟨trivial, ?_⟩; gi_at_call 55; (refine (CallsIn.inRound l (callsIn_wide.2 HT.out)).mono ?_); rintro e w' ⟨rfl, rfl⟩)
        refine ⟨(KeepsOthers.setCell _ _ _).from _, x0, _, rfl, fun q => HE.out ?_⟩
        rw [← HK.out] at q
        rw [HV.out]; exact congrArg Prod.snd q
    · have t1 : (x1 != fr + (k : Int)) = true := by simpa using e1
      have HE := Lib.hid e1; clear e1
      obtain ⟨v1, hv1⟩ : ∃ v1, v1 = (if there (zs z len) x1 then (zs z len)[x1.toNat]?.getD 0 else 0) := ⟨_, rfl⟩
      obtain ⟨o1, ho1⟩ : ∃ o1, o1 = there (zs z len) x1 := ⟨_, rfl⟩
      rw [← hv1, ← ho1] at ht
      clear hv1 ho1
      have HT := Lib.hid ht; clear ht
      gi_wp2_with (refine ⟨trivial, ?_⟩; gi_at_call 55; (refine (CallsIn.inRound l (callsIn_wide.2 HT.out)).mono ?_); rintro e w' ⟨rfl, rfl⟩)
      refine ⟨(KeepsOthers.setCell _ _ _).from _, x0, _, rfl, fun q => HE.out ?_⟩
      rw [← HK.out] at q
      exact congrArg Prod.fst q
  case done =>
    rintro D ys W hD rfl ⟨k, hk, h0, h1, h4, h5, hG⟩ hK
    have c0 := h0.cell 0; have c1 := h1.cell 0; have c5 := h5.cell 0
    have f1 := h1.free 0
    simp only [List.getElem?_toArray, List.getElem?_cons_zero] at c0 c1 c5
    rw [itm_length] at hk
    have HD : Hid (w3.heap.size ≤ D) := hD
    have HK := Lib.hid hK; have HG := Lib.hid hG; have H1 := Lib.hid h1; clear hK hG h0 h1 h4 h5 hst hD
    by_cases q : fr < 0 ∨ (len : Int) ≤ fr
    · rw [tl_none (by rw [zs_length]; exact q)] at hk
      have hk0 : k = 0 := hk
      subst hk0
      clear hk
      by_cases q0 : fr < 0
      · clear q
        go_wp2
        refine ⟨by simp, .inl ⟨_, _, rfl, run_takeDeferred (b := D) (ds := []) ((KeepsOthers.setCell _ _ _).same D _ HK.out rfl), ?_⟩⟩
        have hb1 : Blk ((W.setCell ⟨w.heap.size + 1, 0, none⟩ (.bool true)).putObj D (.deferred none)) (w.heap.size + 1) 4 #[.bool true] :=
          (World.putObj_heap_other (by have := HD.out; omega)).trans (H1.out.set_ 0 _)
        have hc1 := hb1.cell 0
        simp only [List.getElem?_toArray, List.getElem?_cons_zero] at hc1
        refine ⟨.bool true, ?_, rfl, ?_⟩
        · simp [results, Try.f19, go_sem, hc1]
        · exact (HG.out.set ⟨w.heap.size + 1, 0, none⟩ _ (.inr (Nat.le_succ _))).grown (grownBy_putObj' _ D (.deferred none)) (fun r e => by cases e; exact .inr (by have := HD.out; omega))
      · have q1 : (len : Int) ≤ fr := by omega
        clear q
        go_wp2
        refine ⟨by simp, .inl ⟨_, _, rfl, run_takeDeferred (b := D) (ds := []) ((KeepsOthers.setCell _ _ _).same D _ HK.out rfl), ?_⟩⟩
        have hb1 : Blk ((W.setCell ⟨w.heap.size + 1, 0, none⟩ (.bool true)).putObj D (.deferred none)) (w.heap.size + 1) 4 #[.bool true] :=
          (World.putObj_heap_other (by have := HD.out; omega)).trans (H1.out.set_ 0 _)
        have hc1 := hb1.cell 0
        simp only [List.getElem?_toArray, List.getElem?_cons_zero] at hc1
        refine ⟨.bool true, ?_, rfl, ?_⟩
        · simp [results, Try.f19, go_sem, hc1]
        · exact (HG.out.set ⟨w.heap.size + 1, 0, none⟩ _ (.inr (Nat.le_succ _))).grown (grownBy_putObj' _ D (.deferred none)) (fun r e => by cases e; exact .inr (by have := HD.out; omega))
    · obtain ⟨f, rfl⟩ : ∃ f : Nat, fr = f := ⟨fr.toNat, by omega⟩
      have hf : f < len := by omega
      rw [tl_some (by rw [zs_length]; exact hf), List.length_drop, zs_length] at hk
      have q1 : IntKind.i64.wrap ((len : Int) - f) = (k : Int) := by rw [IntWalk.i64_in _ (by omega)]; omega
      have q2 : (len : Int) - f = (k : Int) := by omega
      clear hk q
      go_wp2
      refine ⟨by simp, .inl ⟨_, _, rfl, run_takeDeferred (b := D) (ds := []) ((KeepsOthers.setCell _ _ _).same D _ HK.out rfl), ?_⟩⟩
      have hb1 : Blk ((W.setCell ⟨w.heap.size + 1, 0, none⟩ (.bool true)).putObj D (.deferred none)) (w.heap.size + 1) 4 #[.bool true] :=
        (World.putObj_heap_other (by have := HD.out; omega)).trans (H1.out.set_ 0 _)
      have hc1 := hb1.cell 0
      simp only [List.getElem?_toArray, List.getElem?_cons_zero] at hc1
      refine ⟨.bool true, ?_, rfl, ?_⟩
      · simp [results, Try.f19, go_sem, hc1]
      · exact (HG.out.set ⟨w.heap.size + 1, 0, none⟩ _ (.inr (Nat.le_succ _))).grown (grownBy_putObj' _ D (.deferred none)) (fun r e => by cases e; exact .inr (by have := HD.out; omega))
  case stop =>
    rintro D c pre W _ ⟨k, hk, rfl⟩ ⟨pre0, x, e, hx⟩ _
    exact (hx (itm_last e)).elim
end Go.Proofs.Ytlgdeadghmbfmaa
