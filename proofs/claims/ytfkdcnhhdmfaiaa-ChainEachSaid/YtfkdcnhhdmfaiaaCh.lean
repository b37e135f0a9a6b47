/- ChainEach's walk. -/
import Derived.Test.YtfkdcnhhdmfaiaaCg
import Derived.StillTailTactics
namespace Go.Proofs.Ytfkdcnhhdmfaiaa
open Go.RowKit Go.Shelf
attribute [local go_sem] Oper.semAt_some

/-- A row of numbers is a list's beginning. -/
def Beg (l pre : List Int) : Prop := pre = l.take pre.length
theorem beg_snoc {l pre : List Int} {x : Int} (h : pre.length < l.length) : Beg l (pre ++ [x]) ↔ Beg l pre ∧ x = l[pre.length]?.getD 0 := by
  unfold Beg
  rw [List.length_append, List.length_cons, List.length_nil, Nat.zero_add, ← take_snoc h]
  refine ⟨fun q => ?_, fun ⟨q1, q2⟩ => by rw [← q1, ← q2]⟩
  have := List.append_inj q (by rw [List.length_take]; omega)
  exact ⟨this.1, by simpa using this.2⟩
theorem dn_exp {K i : Nat} (h : i < K) : (asInts (dn K K))[i]?.getD 0 = ((K - 1 - i : Nat) : Int) := by rw [asInts_get, dn_get h]; rfl
/-- What holds between two rounds of ChainEach's loop over the row, whatever was met. -/
def EachJ (w : World) (b gl gn c4 K : Nat) (pre : List Int) (W : World) : Prop :=
  ∃ p q : List Nat, EG w b gl gn c4 K p q W ∧ (Beg (asInts (dn K K)) pre → p = (dn K K).drop pre.length ∧ q = (dn K K).take pre.length)
theorem eachJ_own (w : World) (b gl gn c4 K B : Nat) (hB : w.heap.size ≤ B) : OwnFrom B (EachJ w b gl gn c4 K) := by
  rintro s W W' row ⟨p, q, h, hb⟩ hg hr
  exact ⟨p, q, h.own_ hB hg hr, hb⟩
section
variable {w : World} {b gl gn c4 K : Nat} {a c : List Nat} {W : World}
theorem EG.s0_ (h : EG w b gl gn c4 K a c W) : W.cell? ⟨w.heap.size, 0, none⟩ = some (.bool false) ∧ W.frozen? ⟨w.heap.size, 0, none⟩ = false := ⟨h.s0.cell 0, h.s0.free 0⟩
theorem removeA (x : Nat) (ys ws : List Nat) (h : EG w b gl gn c4 K (ys ++ x :: ws) c W) :
    Calls Try.prog 48 #[.pointer (some ⟨b, 0, none⟩), .int .i64 x] W fun e W' => e = .returned (.tuple #[.int .i64 0, .int .i64 0]) ∧ EG w b gl gn c4 K (ys ++ ws) c W' ∧ But (Own3 b gl gn) W W' :=
  (remove_ok 0 x ys ws h.ch (by omega) rfl).mono fun _ _ ⟨e, q1, q2⟩ => ⟨e, h.turn q2 (by rw [two_fst] at q1; exact q1), q2⟩
theorem removeB (x : Nat) (ys ws : List Nat) (h : EG w b gl gn c4 K a (ys ++ x :: ws) W) :
    Calls Try.prog 48 #[.pointer (some ⟨b, 0, none⟩), .int .i64 x] W fun e W' => e = .returned (.tuple #[.int .i64 1, .int .i64 0]) ∧ But (Own3 b gl gn) W W' :=
  (remove_ok 1 x ys ws h.ch (by omega) rfl).mono fun _ _ ⟨e, q1, q2⟩ => ⟨e, q2⟩
theorem removeC (x : Nat) (hx : x < K) (h : EG w b gl gn c4 K a c W) (h1 : x ∉ a) (h2 : x ∉ c) :
    Calls Try.prog 48 #[.pointer (some ⟨b, 0, none⟩), .int .i64 x] W fun e W' => e = .returned (.tuple #[.int .i64 0, .int .i64 3]) ∧ But (Own3 b gl gn) W W' :=
  (remove_free x h.ch hx (two_lt h1 h2)).mono fun _ _ ⟨e, q⟩ => ⟨e, q.nob⟩
theorem removeD (x : Int) (hx : x < 0 ∨ (K : Int) ≤ x) (h : EG w b gl gn c4 K a c W) :
    Calls Try.prog 48 #[.pointer (some ⟨b, 0, none⟩), .int .i64 x] W fun e W' => e = .returned (.tuple #[.int .i64 0, .int .i64 1]) ∧ But (Own3 b gl gn) W W' :=
  (remove_out x h.ch (inB_no hx)).mono fun _ _ ⟨e, q⟩ => ⟨e, by rw [← q]; exact But.refl _ _⟩
/-- A node met that is no more what it should be: the law's loop ends. -/
theorem EG.off (h : EG w b gl gn c4 K a c W) {W' : World} (hb : But (Own3 b gl gn) W W') : W'.cell? ⟨w.heap.size, 0, none⟩ = some (.bool false) ∧ W'.frozen? ⟨w.heap.size, 0, none⟩ = false := by
  have := h.s0.but hb fun x => by have := h.sep _ x; omega
  exact ⟨this.cell 0, this.free 0⟩
end
set_option maxRecDepth 100000 in
set_option maxHeartbeats 16000000 in
theorem each7_any (v : Nat) (hv : v < 18446744073709551616) (w : World) :
    Calls Try.prog 13 #[.int .u64 v] w fun e w' => e = .returned (.bool true) ∧ Below w.heap.size w w' := by
  refine (callsIn_wide (n := 3)).1 ?_
  refine callsIn_of_wp_marks Try.func13 rfl trivial ?_ rfl
  refine wpIn_wide.2 ?_
  simp only [Try.ntmps13, List.size_toArray, List.length_cons, List.length_nil, Nat.reduceAdd, Nat.reduceSub, Array.replicate_succ, Array.replicate_zero, List.push_toArray, List.append_toArray, List.nil_append, List.cons_append]
  go_upto_region 1 with fail
  go_cut [3] from 13 to 15 (fun t wx => ∃ K : Nat, K < 200 ∧ t = .int .i64 K ∧ wx = w.alloc (.cells #[.bool false] 4))
  case first =>
    go_wp2_with fail
    all_goals
      go_meet
      exact ⟨v % 200, Nat.mod_lt _ (by decide), congrArg _ (by omega), rfl⟩
  case rest =>
    obtain ⟨K, hK, rfl, rfl⟩ := hcut
    go_wp2_with fail
    refine (newc_any K 2 K 2 (by omega) (by omega) _).mono ?_
    rintro e w1 ⟨b, gl, gn, rfl, hC, hG, hsep⟩
    rw [World.size_alloc] at hsep
    have heg : EG w b gl gn w1.heap.size K [] [] (w1.alloc (.cells #[.pointer (some ⟨b, 0, none⟩)] 67)) :=
      ⟨(Blk.new w _ _).but (hG.alloc _) id, Blk.new _ _ _, by rw [← two_none]; exact hC.but ((But.refl Nob _).alloc _) fun _ _ q => q, fun k hk => ⟨hsep k hk, hC.lt hk⟩, (((But.refl Nob w).alloc _).trans hG).alloc _⟩
    have HE := Lib.hid heg
    clear hG hC hsep heg
    go_wp2_with fail
    go_loopw [19, 5] (fun t _ wr => ∃ i : Nat, i ≤ K ∧ t = .int .i64 i ∧ EG w b gl gn w1.heap.size K (dn K i) [] wr) (fun t _ _ => K - (intOf t).toNat)
    case atStart => exact ⟨0, Nat.zero_le _, rfl, HE.out⟩
    case round =>
      obtain ⟨i, hi, rfl, hS⟩ := hrel
      have c4 := hS.cells
      by_cases hlt : i < K
      · have HP := Lib.hid (push0 (K - 1 - i) hS (by omega) (dn_new hlt) (by simp))
        have k0 : (0 : Int) ≤ (i : Int) := by omega
        have k1 : (i : Int) < (K : Int) := by omega
        have HP' : Hid (∀ y : Int, y = (K : Int) - 1 - i → Calls Try.prog 46 #[.pointer (some ⟨b, 0, none⟩), .int .i64 0, .int .i64 y] wr fun e W' => e = .returned (.int .i64 0) ∧ EG w b gl gn w1.heap.size K (dn K i ++ [K - 1 - i]) [] W' ∧ But (Own3 b gl gn) wr W') := fun y hy => by
          obtain rfl : y = ((K - 1 - i : Nat) : Int) := by omega
          exact HP.out
        clear HP hS
        go_wp2_with fail
        refine (HP'.out _ (by omega)).mono ?_
        rintro e w2 ⟨rfl, h2, -⟩
        have H2 := Lib.hid h2; clear h2 HP'
        go_wp2_with fail
        go_roundw
        case rel => exact ⟨i + 1, hlt, by go_num, by rw [dn_succ]; exact H2.out⟩
        case measure => simp [intOf]; omega
      · obtain rfl : i = K := by omega
        have t : ¬ (i : Int) < (i : Int) := by omega
        have hfn := func1_nil
        have HS := Lib.hid hS; clear hS HE
        go_wp2_with fail
        refine (eachc_any _ 0 wr).mono ?_
        rintro e w3 ⟨rfl, hw3⟩
        have hS3 : EG w b gl gn w1.heap.size i (dn i i) [] w3 := by rw [← hw3]; exact HS.out.nob (((But.refl _ _).alloc _).alloc _)
        have hb0 : Blk w3 wr.heap.size 67 #[.pointer (some ⟨b, 0, none⟩)] := by rw [← hw3]; exact (Blk.new _ _ _).alloc _
        have hb1 : Blk w3 (wr.heap.size + 1) 3 #[.int .i64 0] := by
          rw [← hw3]; have := Blk.new (wr.alloc (.cells #[.pointer (some ⟨b, 0, none⟩)] 67)) 3 #[.int .i64 0]
          rwa [World.size_alloc] at this
        have hz3 : w3.heap.size = wr.heap.size + 2 := by rw [← hw3]; simp
        have hw4 : w1.heap.size < wr.heap.size := HS.out.s4.lt
        have HS3 := Lib.hid hS3
        clear hw3 HS hS3 c4
        go_wp2_with fail
        refine (wpIn_wide (n := 3)).1 ?_
        have hst := eachc_stops (3 - 1) (by omega) (Own3 b gl gn) (some ⟨b, 0, none⟩) 0 (asInts (dn i i)) wr.heap.size (wr.heap.size + 1) w3 (fun k hk => by have := HS3.out.sep k hk; omega) hb0 hb1 (fun W hW => all_ok 0 (HS3.out.ch.but hW fun _ _ q => q) (by omega))
        refine wpIn_rangeFunc_ownG rfl (by omega) (gf := 87) rfl trivial (enters_of Try.func87 (by kernel_rfl) rfl) hst (fun h k => ButC.trans h k) (fun W l o o' _ hl ho _ => butC_b W l o o' hl ho) (Below.refl _ _) (fun _ => rfl)
          (EachJ w b gl gn w1.heap.size i) (fun _ pre _ => ¬ Beg (asInts (dn i i)) pre) (eachJ_own w b gl gn w1.heap.size i w3.heap.size (by have := HS3.out.hc4; omega)) (fun _ _ _ _ _ h _ _ => h)
          ⟨dn i i, [], HS3.out, fun _ => ⟨rfl, rfl⟩⟩ ?a1 ?assign ?body ?done ?stop
        case assign =>
          intro l x W K hK
          simp only [enc1]
          gi_wp2
          exact hK
        case body =>
          rintro l x0 x W ⟨p, q, hS, hb⟩ hlen'
          rw [asInts_length, dn_length] at hlen'
          have hls : x0.length < (asInts (dn i i)).length := by rw [asInts_length, dn_length]; exact hlen'
          have c4 := hS.cells
          by_cases hB : Beg (asInts (dn i i)) x0 ∧ x = ((i - 1 - x0.length : Nat) : Int)
          · obtain ⟨hB1, rfl⟩ := hB
            obtain ⟨rfl, rfl⟩ := hb hB1
            have hS1 := hS
            rw [dn_drop hlen'] at hS1
            have HF := Lib.hid (remove0 _ hS1)
            have hB2 : Hid (Beg (asInts (dn i i)) (x0 ++ [((i - 1 - x0.length : Nat) : Int)])) := (beg_snoc hls).2 ⟨hB1, (dn_exp hlen').symm⟩
            have HSEP : Hid (∀ k, Own3 b gl gn k → k < w3.heap.size) := fun k hk => by have := hS.sep k hk; omega
            obtain ⟨x1, hx1⟩ : ∃ x1, x1 = i - 1 - x0.length := ⟨_, rfl⟩
            have hno : Hid (x1 ∉ (dn i i).drop (x0.length + 1)) := by
              have := hS1.ch.nodup (k := 0) (by omega)
              rw [hx1]
              exact (List.nodup_cons.1 (show (_ :: _).Nodup from this)).1
            have hxi : x1 < i := by omega
            have hnt : Hid (x1 ∉ (dn i i).take x0.length) := by rw [hx1]; exact dn_out hlen'
            have htk : Hid ((dn i i).take (x0.length + 1) = (dn i i).take x0.length ++ [x1]) := by rw [hx1]; exact dn_take hlen'
            rw [← hx1] at HF hB2 ⊢
            have HLS := Lib.hid hlen'
            clear hS hS1 hb hst hls hB1 hx1 hlen'
            gi_wp2_with fail
            refine ⟨trivial, ?_⟩
            refine (CallsIn.inRound l (callsIn_wide.2 HF.out)).mono ?_
            rintro e W2 ⟨rfl, h2, hg2⟩
            have HP := Lib.hid (push1 x1 h2 hxi hno.out hnt.out)
            have c4' := h2.cells
            have HG2 := Lib.hid hg2
            clear hg2 HF c4 h2
            gi_wp2_with fail
            refine ⟨trivial, ?_⟩
            refine (CallsIn.inRound l (callsIn_wide.2 HP.out)).mono ?_
            rintro e W3 ⟨rfl, h3, hg3⟩
            have HG3 := Lib.hid (HG2.out.trans hg3); have H3 := Lib.hid h3
            clear h3 hg3 HP c4'
            gi_wp2
            refine ⟨HG3.out.from HSEP.out, HG3.out.cells, _, _, H3.out, fun _ => ?_⟩
            rw [List.length_append, List.length_cons, List.length_nil, Nat.zero_add]
            exact ⟨rfl, htk.out.symm⟩
          · have hNB : ¬ Beg (asInts (dn i i)) (x0 ++ [x]) := fun e => by
              rw [beg_snoc hls, dn_exp hlen'] at e; exact hB e
            clear hB hls
            by_cases hx : x < 0 ∨ (i : Int) ≤ x
            · have HNB := Lib.hid hNB
              have HF := Lib.hid (removeD x hx hS)
              have HS := Lib.hid hS
              clear hS hb hx hNB hst hlen'
              gi_wp2_with fail
              refine ⟨trivial, ?_⟩
              refine (CallsIn.inRound l (callsIn_wide.2 HF.out)).mono ?_
              rintro e W2 ⟨rfl, hg2⟩
              obtain ⟨z0, z1⟩ := HS.out.off hg2
              have HG2 := Lib.hid hg2
              clear hg2 HF c4
              gi_wp2_with fail
              refine ⟨trivial, ?_⟩
              gi_wp2
              exact ⟨(HG2.out.from (B := w3.heap.size) fun k hk => by have := HS.out.sep k hk; omega).trans ((KeepsOthers.setCell _ _ _).from _), HNB.out⟩
            · obtain ⟨y, rfl⟩ : ∃ y : Nat, x = y := ⟨x.toNat, by omega⟩
              have hyi : y < i := by omega
              by_cases hp : y ∈ p
              · obtain ⟨ys, ws, rfl⟩ := List.append_of_mem hp
                have HF := Lib.hid (removeA y ys ws hS)
                have HNB := Lib.hid hNB
                have HSEP : Hid (∀ k, Own3 b gl gn k → k < w3.heap.size) := fun k hk => by have := hS.sep k hk; omega
                have hnd : (ys ++ y :: ws).Nodup := hS.ch.nodup (k := 0) (by omega)
                have hno : Hid (y ∉ ys ++ ws) := fun m => by
                  rw [List.nodup_append] at hnd
                  rcases List.mem_append.1 m with m | m
                  · exact hnd.2.2 y m y (by simp) rfl
                  · exact (List.nodup_cons.1 hnd.2.1).1 m
                have hnq : Hid (y ∉ q) := fun m => by
                  have := hS.ch.one (j := 0) (k := 1) (x := y) (by omega) (by omega) hp m
                  omega
                clear hS hb hst hlen' hNB hx hp hnd
                gi_wp2_with fail
                refine ⟨trivial, ?_⟩
                refine (CallsIn.inRound l (callsIn_wide.2 HF.out)).mono ?_
                rintro e W2 ⟨rfl, h2, hg2⟩
                have HP := Lib.hid (push1 y h2 hyi hno.out hnq.out)
                have c4' := h2.cells
                have HG2 := Lib.hid hg2
                clear hg2 HF c4 h2
                gi_wp2_with fail
                refine ⟨trivial, ?_⟩
                refine (CallsIn.inRound l (callsIn_wide.2 HP.out)).mono ?_
                rintro e W3 ⟨rfl, h3, hg3⟩
                have HG3 := Lib.hid (HG2.out.trans hg3); have H3 := Lib.hid h3
                clear h3 hg3 HP c4'
                gi_wp2
                exact ⟨HG3.out.from HSEP.out, HG3.out.cells, _, _, H3.out, fun e => (HNB.out e).elim⟩
              · have HNB := Lib.hid hNB
                by_cases hq : y ∈ q
                · obtain ⟨ys, ws, rfl⟩ := List.append_of_mem hq
                  have HF := Lib.hid (removeB y ys ws hS)
                  have HS := Lib.hid hS
                  clear hS hb hx hNB hp hq hst hlen'
                  gi_wp2_with fail
                  refine ⟨trivial, ?_⟩
                  refine (CallsIn.inRound l (callsIn_wide.2 HF.out)).mono ?_
                  rintro e W2 ⟨rfl, hg2⟩
                  obtain ⟨z0, z1⟩ := HS.out.off hg2
                  have HG2 := Lib.hid hg2
                  clear hg2 HF c4
                  gi_wp2_with fail
                  refine ⟨trivial, ?_⟩
                  gi_wp2
                  exact ⟨(HG2.out.from (B := w3.heap.size) fun k hk => by have := HS.out.sep k hk; omega).trans ((KeepsOthers.setCell _ _ _).from _), HNB.out⟩
                · have HF := Lib.hid (removeC y hyi hS hp hq)
                  have HS := Lib.hid hS
                  clear hS hb hx hNB hp hq hst hlen'
                  gi_wp2_with fail
                  refine ⟨trivial, ?_⟩
                  refine (CallsIn.inRound l (callsIn_wide.2 HF.out)).mono ?_
                  rintro e W2 ⟨rfl, hg2⟩
                  obtain ⟨z0, z1⟩ := HS.out.off hg2
                  have HG2 := Lib.hid hg2
                  clear hg2 HF c4
                  gi_wp2_with fail
                  refine ⟨trivial, ?_⟩
                  gi_wp2
                  exact ⟨(HG2.out.from (B := w3.heap.size) fun k hk => by have := HS.out.sep k hk; omega).trans ((KeepsOthers.setCell _ _ _).from _), HNB.out⟩
        case done =>
          rintro D ys W hD rfl ⟨p, q, hS, hb⟩ hK
          obtain ⟨rfl, rfl⟩ := hb (by unfold Beg; rw [List.take_length])
          rw [asInts_length, dn_length, List.drop_of_length_le (by rw [dn_length]; omega), List.take_of_length_le (by rw [dn_length]; omega)] at hS
          have HD : Hid (w3.heap.size ≤ D) := hD
          have HK := Lib.hid hK; have HS := Lib.hid hS
          have HX : Hid (∀ k, Own3 b gl gn k → k < D) := fun k hk => by have := hS.sep k hk; omega
          clear hK hS hb hD hst HS3
          go_wp2_with fail
          go_loopw [55] (fun t wx => ∃ j : Nat, j ≤ i ∧ t = .int .i64 j ∧ EG w b gl gn w1.heap.size i [] ((dn i i).drop j) wx ∧ wx.heap[D]? = some (.deferred (some []))) (fun t _ => i - (intOf t).toNat)
          case atStart => exact ⟨0, Nat.zero_le _, rfl, HS.out, HK.out⟩
          case round =>
            obtain ⟨j, hj, rfl, hS, hKq⟩ := hrel
            have c4 := hS.cells
            by_cases hlt : j < i
            · have hS1 := hS
              rw [dn_drop hlt] at hS1
              have HP := pop1 _ hS1
              rw [show ((i - 1 - j : Nat) : Int) = (i : Int) - 1 - j by omega] at HP
              have HP := Lib.hid HP; have HKj := Lib.hid hKq
              have tq : ((i : Int) - 1 - j != (i : Int) - 1 - j) = false := by simp
              clear hS hS1 hKq HS HK
              go_wp2_with fail
              refine HP.out.mono ?_
              rintro e w4 ⟨rfl, h4, hg4⟩
              have hk4 : w4.heap[D]? = some (.deferred (some [])) := (hg4.block D (Array.getElem?_eq_some_iff.1 HKj.out).1 (fun x => by have := HX.out D x; omega)).trans HKj.out
              have H4 := Lib.hid h4; have HK4 := Lib.hid hk4
              clear h4 hg4 hk4 HP c4
              go_wp2_with fail
              go_roundw
              case rel => exact ⟨j + 1, hlt, by go_num, H4.out, HK4.out⟩
              case measure => simp [intOf]; omega
            · obtain rfl : j = i := by omega
              rw [List.drop_of_length_le (by rw [dn_length]; omega)] at hS
              have l0 : Calls Try.prog 50 #[.pointer (some ⟨b, 0, none⟩), .int .i64 0] wr.drew fun e w' => e = .returned (.int .i64 0) ∧ w' = wr.drew := (lenc_ok 0 (hS.ch.but (But.refl Nob wr).drew (fun _ _ q => q)) (by omega)).mono fun _ _ ⟨q1, q2⟩ => ⟨q1, q2.symm⟩
              have l1 : Calls Try.prog 50 #[.pointer (some ⟨b, 0, none⟩), .int .i64 1] wr.drew fun e w' => e = .returned (.int .i64 0) ∧ w' = wr.drew := (lenc_ok 1 (hS.ch.but (But.refl Nob wr).drew (fun _ _ q => q)) (by omega)).mono fun _ _ ⟨q1, q2⟩ => ⟨q1, q2.symm⟩
              have L0 := Lib.hid l0; have L1 := Lib.hid l1; have HSj := Lib.hid hS; have HKj := Lib.hid hKq
              clear hS hKq HS HK l0 l1
              go_wp2_with fail
              refine wp_region_still_tail 7 (by kernel_rfl) (by kernel_rfl) ?_
              simp only [List.take_succ_cons, List.take_zero, List.drop_succ_cons, List.drop_zero]
              still_step
              still_call L0.out
              still_step
              still_call L1.out
              still_step
              still_step
              still_step
              refine wpStill_nil ?_
              change wpList _ _ _ _ _ wr.drew
              have c4' : wr.drew.cell? ⟨w1.heap.size, 0, none⟩ = some (.pointer (some ⟨b, 0, none⟩)) := c4
              have hE : EG w b gl gn w1.heap.size j [] [] wr.drew := ⟨HSj.out.s0, HSj.out.s4, HSj.out.ch.but (But.refl Nob wr).drew (fun _ _ q => q), HSj.out.sep, HSj.out.old.drew⟩
              have hKd : wr.drew.heap[D]? = some (.deferred (some [])) := HKj.out
              have HE := Lib.hid hE; have HKD := Lib.hid hKd
              clear hE hKd c4 L0 L1 HSj HKj
              generalize wr.drew = w5 at *
              go_wp2_with fail
              refine (lives7_any _).mono ?_
              rintro e w9 ⟨rfl, h9⟩
              have b1 := HE.out.s0.below h9 HE.out.s0.lt
              have c1 := b1.cell 0; have f1 := b1.free 0
              simp only [List.getElem?_toArray, List.getElem?_cons_zero] at c1
              have H9 := Lib.hid h9; have B1 := Lib.hid b1; clear h9 b1
              go_wp2_with fail
              have hDl := (Array.getElem?_eq_some_iff.1 HKD.out).1
              have hK9 : w9.heap[D]? = some (.deferred (some [])) := (H9.out.block D hDl).trans HKD.out
              have hc4n := HE.out.hc4
              refine ⟨by simp, .inl ⟨_, _, rfl, run_takeDeferred (b := D) (ds := []) ((KeepsOthers.setCell _ _ _).same D _ hK9 rfl), ?_⟩⟩
              have hb1 : Blk ((w9.setCell ⟨w.heap.size, 0, none⟩ (.bool true)).putObj D (.deferred none)) w.heap.size 4 #[.bool true] :=
                (World.putObj_heap_other (by have := HD.out; omega)).trans (B1.out.set_ 0 _)
              have hc1 := hb1.cell 0
              simp only [List.getElem?_toArray, List.getElem?_cons_zero] at hc1
              refine ⟨.bool true, ?_, rfl, ?_⟩
              · simp [results, Try.f13, go_sem, hc1]
              · have hG9 : But Nob w w9 := HE.out.old.trans (But.of_below H9.out)
                exact ((hG9.set ⟨w.heap.size, 0, none⟩ _ (.inr (Nat.le_refl _))).grown (grownBy_putObj' _ D (.deferred none)) (fun r e => by cases e; exact .inr (by have := HD.out; omega))).below (Nat.le_refl _) fun _ _ x => x.elim
        case stop =>
          rintro D c pre W _ ⟨k, hk, rfl⟩ hx _
          exact (hx (by unfold Beg; rw [List.length_take, Nat.min_eq_left hk])).elim
end Go.Proofs.Ytfkdcnhhdmfaiaa
