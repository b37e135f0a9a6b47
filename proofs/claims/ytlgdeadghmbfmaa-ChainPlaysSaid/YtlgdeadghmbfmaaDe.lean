/- Layer 7's row: has a row just these? -/
import Derived.Test.YtlgdeadghmbfmaaCb
import Derived.Test.YtlgdeadghmbfmaaDa
import Derived.Deep.DeepCutAuto
import Derived.Deep.CutRange
namespace Go.Proofs.Ytlgdeadghmbfmaa
open Go.RowKit Go.Shelf
attribute [local go_sem] Oper.semAt_some

def RowI (w : World) (A : Option Addr) (len cap : Nat) (pre : List Int) (W : World) : Prop :=
  ∃ k : Nat, k = pre.length ∧ Blk W w.heap.size 27 #[.slice A len cap] ∧ Blk W (w.heap.size + 1) 4 #[.bool false] ∧ Blk W (w.heap.size + 4) 3 #[.int .i64 k] ∧ But Nob w W
theorem rowI_own (w : World) (A : Option Addr) (len cap : Nat) (B : Nat) (hB : w.heap.size ≤ B) : OwnFrom B (RowI w A len cap) := by
  rintro s W W' row ⟨k, e, h0, h1, h4, hG⟩ hg hr
  have hr' : ∀ r, row = some r → ∃ o : Obj, W.heap[r]? = some o ∧ o.isCells = false := fun r e => (hr r e).2
  exact ⟨k, e, h0.own_ hg hr', h1.own_ hg hr', h4.own_ hg hr', hG.grown hg fun r e => .inr (Nat.le_trans hB (hr r e).1)⟩
def RowX (l : List Int) (pre : List Int) : Prop := ∃ pre0 x, pre = pre0 ++ [x] ∧ x ≠ l[pre0.length]?.getD 0
theorem take_last {l : List Int} {k : Nat} (hk : k ≤ l.length) {pre0 : List Int} {x : Int} (h : l.take k = pre0 ++ [x]) : x = l[pre0.length]?.getD 0 := by
  have hl := congrArg List.length h
  rw [List.length_take, Nat.min_eq_left hk, List.length_append] at hl
  have hl' : k = pre0.length + 1 := hl
  have e : (l.take k)[pre0.length]? = (pre0 ++ [x])[pre0.length]? := by rw [h]
  rw [List.getElem?_take, if_pos (by omega), List.getElem?_append_right (Nat.le_refl _), Nat.sub_self] at e
  rw [e]; rfl
theorem hd_get (l : List Nat) (h : 0 < l.length) : ((l[0]?.getD 0 : Nat) : Int) = hd l := by cases l with
  | nil => exact absurd h (by simp)
  | cons a l => rfl
set_option maxRecDepth 100000 in
set_option maxHeartbeats 4000000 in
theorem row7_any (p : Option Addr) (k0 : Int) (l : List Nat) (A : Option Addr) (cap : Nat) (w : World) (hlen : l.length ≤ 4096) (hI : IntsIn w A l.length (fun i => (l[i]?.getD 0 : Nat)))
    (hF : ∀ w1, But Nob w w1 → Calls Try.prog 52 #[.pointer p, .int .i64 k0] w1 fun e w' => e = .returned (.tuple #[.int .i64 (hd l), .bool (!l.isEmpty)]) ∧ w1 = w')
    (hN : ∀ w1, But Nob w w1 → Calls Try.prog 50 #[.pointer p, .int .i64 k0] w1 fun e w' => e = .returned (.int .i64 l.length) ∧ w1 = w')
    (hA : ∀ w1, But Nob w w1 → Calls Try.prog 88 #[.pointer p, .int .i64 k0] w1 (RowQ (asInts l) w1)) :
    Calls Try.prog 80 #[.pointer p, .int .i64 k0, .slice A l.length cap] w fun e w' => e = .returned (.bool true) ∧ But Nob w w' := by
  refine (callsIn_wide (n := 3)).1 ?_
  refine callsIn_of_wp_marks Try.func80 rfl trivial ?_ rfl
  refine wpIn_wide.2 ?_
  simp only [Try.ntmps80, List.size_toArray, List.length_cons, List.length_nil, Nat.reduceAdd, Nat.reduceSub, Array.replicate_succ, Array.replicate_zero, List.push_toArray, List.append_toArray, List.nil_append, List.cons_append]
  have hfn := func1_nil
  go_wp2_with fail
  refine (eachc_any _ k0 _).mono ?_
  rintro e w1 ⟨rfl, hw1⟩
  have b0 : Blk w1 w.heap.size 27 #[.slice A l.length cap] := by subst hw1; exact (((Blk.new w _ _).alloc _).alloc _).alloc _
  have b1 : Blk w1 (w.heap.size + 1) 4 #[.bool false] := by
    subst hw1; have := Blk.new (w.alloc (.cells #[.slice A l.length cap] 27)) 4 #[.bool false]
    rw [World.size_alloc] at this; exact (this.alloc _).alloc _
  have b2 : Blk w1 (w.heap.size + 2) 67 #[.pointer p] := by
    subst hw1; have := Blk.new ((w.alloc (.cells #[.slice A l.length cap] 27)).alloc (.cells #[.bool false] 4)) 67 #[.pointer p]
    rw [World.size_alloc, World.size_alloc] at this; exact this.alloc _
  have b3 : Blk w1 (w.heap.size + 3) 3 #[.int .i64 k0] := by
    subst hw1; have := Blk.new (((w.alloc (.cells #[.slice A l.length cap] 27)).alloc (.cells #[.bool false] 4)).alloc (.cells #[.pointer p] 67)) 3 #[.int .i64 k0]
    rw [World.size_alloc, World.size_alloc, World.size_alloc] at this; exact this
  have hz : w1.heap.size = w.heap.size + 4 := by subst hw1; simp
  have hG : But Nob w w1 := by subst hw1; exact ((((But.refl _ _).alloc _).alloc _).alloc _).alloc _
  simp only [World.size_alloc]
  clear hw1
  have HG := Lib.hid hG; have HZ := Lib.hid hz
  have c0 := b0.cell 0
  simp only [List.getElem?_toArray, List.getElem?_cons_zero] at c0
  have HF1 := Lib.hid (hF _ hG); have HN1 : Hid (∀ n, Calls Try.prog 50 #[.pointer p, .int .i64 k0] (w1.drewN n) fun e w' => e = .returned (.int .i64 l.length) ∧ w' = w1.drewN n) := fun n => (hN _ (hG.drewN n)).mono fun _ _ ⟨q1, q2⟩ => ⟨q1, q2.symm⟩
  have HI := Lib.hid (hI.but hG fun _ _ _ x => x)
  have HI0 := Lib.hid hI
  clear hG hz hI hF hN
  simp only [Nat.add_assoc, Nat.reduceAdd]
  obtain ⟨L, hL⟩ : ∃ L, l.length = L := ⟨_, rfl⟩
  obtain ⟨f, hf⟩ : ∃ f, hd l = f := ⟨_, rfl⟩
  obtain ⟨o, ho⟩ : ∃ o, (!l.isEmpty) = o := ⟨_, rfl⟩
  have hfo : (L = 0 ∧ f = 0 ∧ o = false) ∨ (0 < L ∧ o = true) := by
    cases l with
    | nil => exact .inl ⟨hL.symm, hf.symm, ho.symm⟩
    | cons a l => exact .inr ⟨by rw [← hL]; simp, ho.symm⟩
  have HL := Lib.hid hL; have HF := Lib.hid hf
  rw [hL] at b0 HN1 HI HI0 c0 hlen ⊢
  rw [hf, ho] at HF1
  have HB0 := Lib.hid b0; have HB1 := Lib.hid b1; have HB2 := Lib.hid b2; have HB3 := Lib.hid b3
  have HA := Lib.hid hA
  clear hL hf ho b0 b1 b2 b3 hA
  go_wp2_with (go_at_call 52; (with_reducible refine HF1.out.mono ?_); rintro e wq ⟨rfl, rfl⟩)
  go_cut [55] from 16 to 55 (fun t wx => t = .bool false ∧ ∃ n, wx = w1.drewN n)
  case first =>
    rcases hfo with ⟨rfl, rfl, rfl⟩ | ⟨h0, rfl⟩
    · have t0 : (((0 : Nat) : Int) != ((0 : Nat) : Int)) = false := by decide
      go_quiet ((go_at_call 50; exact Calls.quiet_of_same (HN1.out _)))
      go_wp2_with fail
      go_meet
      exact ⟨rfl, _, rfl⟩
    · have t0 : (0 : Int) < (L : Int) := by omega
      have t1 : ((L : Int) != (L : Int)) = false := by simp
      have t2 : (f != f) = false := by simp
      obtain ⟨bb, off, rfl, hbb, cx⟩ := HI.out 0 (by omega)
      rw [Nat.add_zero] at cx
      dsimp only at cx
      rw [hd_get l (by rw [HL.out]; omega), HF.out] at cx
      go_quiet ((go_at_call 50; exact Calls.quiet_of_same (HN1.out _)))
      go_wp2_with fail
      go_meet
      exact ⟨rfl, _, rfl⟩
  case rest =>
    obtain ⟨rfl, n, rfl⟩ := hcut
    have hG2 : But Nob w (w1.drewN n) := HG.out.drewN n
    have b0 : Blk (w1.drewN n) w.heap.size 27 #[.slice A L cap] := HB0.out
    have b1 : Blk (w1.drewN n) (w.heap.size + 1) 4 #[.bool false] := HB1.out
    have b2 : Blk (w1.drewN n) (w.heap.size + 2) 67 #[.pointer p] := HB2.out
    have b3 : Blk (w1.drewN n) (w.heap.size + 3) 3 #[.int .i64 k0] := HB3.out
    have hz : (w1.drewN n).heap.size = w.heap.size + 4 := HZ.out
    clear c0 HG HZ hfn HB0 HB1 HB2 HB3 HN1 HF1 HI hfo HF
    generalize w1.drewN n = w2 at *
    clear w1
    have HZ := Lib.hid hz
    have HB0 := Lib.hid b0; have HB1 := Lib.hid b1; have HB2 := Lib.hid b2; have HB3 := Lib.hid b3; have HG2 := Lib.hid hG2
    clear b0 b1 b2 b3 hG2
    have hsz : w2.heap.size = w.heap.size + 4 := hz
    clear hz
    go_wp2_with fail
    obtain ⟨w3, hw3⟩ : ∃ w3, w2.alloc (.cells #[.int .i64 0] 3) = w3 := ⟨_, rfl⟩
    have hs3 : w3.heap.size = w.heap.size + 5 := by rw [← hw3]; simp [hsz]
    have b0 : Blk w3 w.heap.size 27 #[.slice A L cap] := by rw [← hw3]; exact HB0.out.alloc _
    have b1 : Blk w3 (w.heap.size + 1) 4 #[.bool false] := by rw [← hw3]; exact HB1.out.alloc _
    have b2 : Blk w3 (w.heap.size + 2) 67 #[.pointer p] := by rw [← hw3]; exact HB2.out.alloc _
    have b3 : Blk w3 (w.heap.size + 3) 3 #[.int .i64 k0] := by rw [← hw3]; exact HB3.out.alloc _
    have b4 : Blk w3 (w.heap.size + 4) 3 #[.int .i64 ((0 : Nat) : Int)] := by
      have := Blk.new w2 3 #[.int .i64 0]
      rw [hw3, hsz] at this; exact this
    have hG3 : But Nob w w3 := by rw [← hw3]; exact HG2.out.alloc _
    rw [hw3]
    clear hw3 HB0 HB1 HB2 HB3 HG2 HZ hsz
    refine (wpIn_wide (n := 3)).1 ?_
    have hst := eachc_stops (3 - 1) (by omega) (fun k => k = w.heap.size + 4) p k0 (asInts l) (w.heap.size + 2) (w.heap.size + 3) w3 (fun k hk => by omega) b2 b3 (fun W hW => HA.out W (hG3.trans hW))
    refine wpIn_rangeFunc_ownG rfl (by omega) (gf := 87) rfl trivial (enters_of Try.func87 (by kernel_rfl) rfl) hst (fun h k => ButC.trans h k) (fun W l o o' _ hl ho _ => butC_b W l o o' hl ho) (Below.refl _ _) (fun _ => rfl)
      (RowI w A L cap) (fun _ pre _ => RowX (asInts l) pre) (rowI_own w A L cap w3.heap.size (by omega)) (fun _ _ _ _ _ h _ _ => h)
      ⟨0, rfl, b0, b1, b4, hG3⟩ ?a1 ?assign ?body ?done ?stop
    case assign =>
      intro l x W K hK
      simp only [enc1]
      gi_wp2
      exact hK
    case body =>
      rintro l1 x0 x W ⟨k, hk, h0, h1, h4, hG⟩ hlen'
      rw [asInts_length, HL.out] at hlen'
      have hkL : k < L := by omega
      obtain ⟨bb, off, rfl, hbb, cx⟩ := (HI0.out.but hG fun _ _ _ x => x) k hkL
      dsimp only at cx
      obtain ⟨v, hv⟩ : ∃ v : Int, v = ((l[k]?.getD 0 : Nat) : Int) := ⟨_, rfl⟩
      rw [← hv] at cx
      have hv2 : v = (asInts l)[k]?.getD 0 := by rw [asInts_get]; exact hv
      have c0 := h0.cell 0; have c4 := h4.cell 0; have c1 := h1.cell 0
      have f1 := h1.free 0; have f4 := h4.free 0
      simp only [List.getElem?_toArray, List.getElem?_cons_zero] at c0 c1 c4
      have k0' : (0 : Int) ≤ (k : Int) := by omega
      have k1 : (k : Int) < (L : Int) := by omega
      have k2 : decide (L ≤ k) = false := by simp; omega
      have HG := Lib.hid hG; have HK := Lib.hid hk; have HV := Lib.hid hv2
      have H0 := Lib.hid h0; have H1 := Lib.hid h1; have H4 := Lib.hid h4
      have q2 : IntKind.i64.wrap ((k : Int) + 1) = (k : Int) + 1 := IntWalk.i64_in _ (by omega)
      clear hG hk hv hv2 h0 h1 h4 hst
      by_cases e2 : x = v
      · subst e2
        have t2 : (x != x) = false := by simp
        gi_wp2_with (refine ⟨trivial, ?_⟩)
        refine ⟨((KeepsOthers.setCell _ _ _).from _), But.cells ((But.refl _ _).set _ _ (.inl rfl)), k + 1, by rw [List.length_append, HK.out]; rfl, ?_, ?_, ?_, ?_⟩
        · exact H0.out.far (by show _ ≠ w.heap.size + 4; omega) _
        · exact H1.out.far (by show _ ≠ w.heap.size + 4; omega) _
        · have := H4.out.set_ 0 (.int .i64 ((k : Int) + 1))
          rw [show ((k + 1 : Nat) : Int) = (k : Int) + 1 by omega]; exact this
        · exact HG.out.set _ _ (.inr (by show _ ≤ w.heap.size + 4; omega))
      · have t2 : (x != v) = true := by simpa using e2
        have HE := Lib.hid e2; clear e2
        gi_wp2_with (refine ⟨trivial, ?_⟩)
        refine ⟨(KeepsOthers.setCell _ _ _).from _, x0, x, rfl, fun q => HE.out ?_⟩
        rw [← HK.out] at q
        rw [HV.out]; exact q
    case done =>
      rintro D ys W hD rfl ⟨k, hk, h0, h1, h4, hG⟩ hK
      have c0 := h0.cell 0; have c1 := h1.cell 0; have c4 := h4.cell 0
      have f1 := h1.free 0
      simp only [List.getElem?_toArray, List.getElem?_cons_zero] at c0 c1 c4
      rw [asInts_length, HL.out] at hk
      subst hk
      have HD : Hid (w3.heap.size ≤ D) := hD
      have HK := Lib.hid hK; have HG := Lib.hid hG; have H1 := Lib.hid h1; clear hK hG h0 h1 h4 hst hD
      go_wp2
      refine ⟨by simp, .inl ⟨_, _, rfl, run_takeDeferred (b := D) (ds := []) ((KeepsOthers.setCell _ _ _).same D _ HK.out rfl), ?_⟩⟩
      have hb1 : Blk ((W.setCell ⟨w.heap.size + 1, 0, none⟩ (.bool true)).putObj D (.deferred none)) (w.heap.size + 1) 4 #[.bool true] :=
        (World.putObj_heap_other (by have := HD.out; omega)).trans (H1.out.set_ 0 _)
      have hc1 := hb1.cell 0
      simp only [List.getElem?_toArray, List.getElem?_cons_zero] at hc1
      refine ⟨.bool true, ?_, rfl, ?_⟩
      · simp [results, Try.f80, go_sem, hc1]
      · exact (HG.out.set ⟨w.heap.size + 1, 0, none⟩ _ (.inr (Nat.le_succ _))).grown (grownBy_putObj' _ D (.deferred none)) (fun r e => by cases e; exact .inr (by have := HD.out; omega))
    case stop =>
      rintro D c pre W _ ⟨k, hk, rfl⟩ ⟨pre0, x, e, hx⟩ _
      exact (hx (take_last hk e)).elim
end Go.Proofs.Ytlgdeadghmbfmaa
