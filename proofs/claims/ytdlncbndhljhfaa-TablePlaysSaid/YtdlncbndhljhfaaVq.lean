/- TablePlays' walk (layer 12). -/
import Derived.Test.YtdlncbndhljhfaaVp
import Derived.Test.YtdlncbndhljhfaaTx
namespace Go.Proofs.Ytdlncbndhljhfaa
open Go.RowKit

theorem blk_range {w : World} {b : Nat} {t : TypeId} {cs : List Value} (h : Blk w b t cs.toArray) : w.rangeAt b 0 cs := fun j u hj => by
  rw [Nat.zero_add, Blk.cell h]; simpa using hj
theorem two_new {w W : World} {b c gl gn r : Nat} {v : Value} {ls : Nat → List Nat} (h : Liv w NoE b c gl gn v r [] ls W) :
    Two w NoE b c gl gn v W.heap.size (.slice none 0 0) (.slice none 0 0) r [] ls [] [] (W.alloc (.cells #[.int .i64 r, .slice none 0 0, .slice none 0 0] 30)) := by
  have hal : Below W.heap.size W (W.alloc (.cells #[.int .i64 r, .slice none 0 0, .slice none 0 0] 30)) := (Below.refl _ _).alloc (Nat.le_refl _) _
  have hno : ∀ k, OwnR W.heap.size (.slice none 0 0) (.slice none 0 0) k → k = W.heap.size := fun k hk => by
    rcases hk with e | e | e
    · exact e
    · simp [Value.ownBlock] at e
    · simp [Value.ownBlock] at e
  refine ⟨h.tab.below hal, ⟨Blk.new _ _ _, World.ownsRow_nil _ _ _ _, fun x hx => by simp at hx, World.ownsRow_nil _ _ _ _, by simp⟩, fun k hk q => ?_, fun k hk => ?_, h.below.trans (hal.mono h.below.size), fun k hk => hk.elim⟩
  · have h1 := h.tab.lt hk
    have h2 := hno k q
    omega
  · rcases hk with q | q
    · exact h.own k q
    · exact ⟨by have := hno k q; have := h.below.size; omega, fun e => e⟩
set_option maxRecDepth 100000 in
set_option maxHeartbeats 16000000 in
theorem plays12_any (room : Int) (A : Option Addr) (l : List OpR) (cap : Nat) (w : World) (hcap : l.length ≤ cap) (hI : OpsT w A l) :
    Calls Try.prog 3 #[.int .i64 room, .slice A l.length cap] w (GotB w.heap.size (.bool true) w) := by
  obtain ⟨r, hr⟩ : ∃ r : Nat, min (max room 0) 256 = (r : Int) := ⟨(min (max room 0) 256).toNat, by omega⟩
  have HN := Lib.hid (lnew room r hr w w NoE (Below.refl _ _) (fun _ q => q.elim))
  have HRR := Lib.hid (refRoom_any room r hr); have HLV := Lib.hid lives12_any
  clear hr
  go_enter Try.func3, Try.ntmps3
  go_upto_region 1 with fail
  go_cut [1] (fun t wx => ∃ N : Nat, N ≤ 50 ∧ N ≤ l.length ∧ t = .slice A N cap ∧ wx = w)
  case first =>
    clear HN HRR HLV hI
    generalize l.length = len at *
    by_cases h60 : len ≤ 50
    · have t0 : ¬ (50 : Int) < len := by omega
      have t1 : (0 : Int) ≤ len := by omega
      have t2 : (len : Int) ≤ cap := by omega
      go_wp2_with fail
      go_meet
      exact ⟨len, h60, Nat.le_refl _, by first | rfl | (rw [show (min (len : Int) 50).toNat = len by omega]), rfl⟩
    · have t0 : (50 : Int) < len := by omega
      have t2 : (50 : Int) ≤ cap := by omega
      have t3 : 50 ≤ cap := by omega
      go_wp2_with fail
      go_meet
      exact ⟨50, Nat.le_refl _, by omega, by first | rfl | (rw [show (min (len : Int) 50).toNat = 50 by omega]), rfl⟩
  case rest =>
    obtain ⟨N, hN1, hN2, rfl, hwx⟩ := hcut
    obtain rfl := hwx.symm
    have HI := Lib.hid hI
    clear hI hcap
    go_wp2_with fail
    refine HN.out.mono ?_
    rintro e w1 ⟨b, c, gl, gn, rfl, ht, -⟩
    dsimp only
    have HT1 := Lib.hid ht
    clear ht HN
    go_wp2_with fail
    refine (HRR.out w1).mono ?_
    rintro e w2 ⟨rfl, rfl⟩
    dsimp only
    go_upto_region 4 with fail
    have HT4 := Lib.hid (two_new HT1.out)
    clear HT1 HRR
    generalize w1.alloc (.cells #[.int .i64 r, .slice none 0 0, .slice none 0 0] 30) = W4 at *
    generalize w1.heap.size = tb at *
    have HL1 : Hid (∀ k, Calls Try.prog 12 #[.pointer (some ⟨b, 0, none⟩)] (W4.drewN k) fun e w' => e = .returned (.int .i64 r) ∧ w' = W4.drewN k) := fun k => by
      have := troom_any (HT4.out.tab.below (w' := W4.drewN k) ⟨rfl, rfl, rfl, Nat.le_refl _, fun _ _ => rfl⟩)
      exact this.mono fun _ _ z => ⟨z.1, z.2.symm⟩
    have c0 := HT4.out.ref.cells.1
    have tn : ((r : Int) != (r : Int)) = false := by simp
    go_quiet (first | (go_at_call 12; with_reducible exact Calls.quiet_of_same (HL1.out _)))
    go_upto_region 6 with fail
    have HT6 := Lib.hid (HT4.out.on (W' := W4.drewN nq) ⟨rfl, rfl, rfl, Nat.le_refl _, fun _ _ => rfl⟩)
    clear HL1 HT4 c0 tn
    generalize W4.drewN nq = w6 at *
    go_wp2_with fail
    have HRN : Hid (RelW r 0 (fun _ => []) []) := RelW.nil
    go_loopw [33] (fun i wr => ∃ (k : Nat) (v vL vW : Value) (ts : List (List Value)) (ls : Nat → List Nat) (ws : List (Nat × Nat)), i = .int .i64 k ∧ k ≤ N ∧ Two w NoE b c gl gn v tb vL vW r ts ls ts ws wr ∧ RelW r ts.length ls ws) (fun i _ => N - (intOf i).toNat)
    case atStart => exact ⟨0, _, _, _, [], _, _, rfl, Nat.zero_le _, HT6.out, HRN.out⟩
    case round =>
    obtain ⟨k, v, vL, vW, ts, ls, ws, rfl, hk, ht, hrw⟩ := hrel
    have HT := Lib.hid ht; have HRW := Lib.hid hrw
    clear ht hrw HT6 HRN
    by_cases hlt : k < N
    · obtain ⟨o, ho⟩ : ∃ o, l[k]? = some o := ⟨_, List.getElem?_eq_getElem (by omega)⟩
      obtain ⟨hok, bb, off, rfl, -, hr⟩ := (HI.out.below HT.out.below).range ho
      have HR := Lib.hid hr
      have hO32 := opL_len hok
      have HIO := Lib.hid (infoOp.trans (congrArg some hO32.symm))
      have HIXX := Lib.hid (infoT.trans (congrArg some hok.len.symm))
      have hst := run_storeCells_new (P := Try.prog) wr 40 #[.int .u64 0, .int .i64 0, .int .i64 0, .int .i32 0, .int .i32 0, .int .i32 0, .int .i32 0, .int .i64 0, .int .u64 0, .int .u64 0, .int .u64 0, .int .u64 0, .int .u64 0, .int .u64 0, .int .u64 0, .int .u64 0, .int .u64 0, .int .u64 0, .int .u64 0, .int .u64 0, .int .u64 0, .int .u64 0, .int .u64 0, .int .u64 0, .int .i64 0, .int .i64 0, .int .i64 0, .int .i64 0, .int .i64 0, .int .i64 0, .int .i64 0, .int .i64 0] (opL o).toArray (infoOp.trans (congrArg some (by rw [List.size_toArray, hO32]))) (Eq.trans (show _ = 32 from rfl) (by rw [List.size_toArray, hO32])) (all_oneCell_toArray (opL_one hok))
      have hbx := Blk.new wr 40 (opL o).toArray
      have htb := HT.out.boxed (.cells (opL o).toArray 40)
      have hdo := fun (W : World) (h : Two w (Ebox NoE wr.heap.size) b c gl gn v tb vL vW r ts ls ts ws W) => do_any o hok h HRW.out
      have hall := fun (W : World) (v vL vW : Value) (ts : List (List Value)) (ls : Nat → List Nat) (ws : List (Nat × Nat)) (h : Two w (Ebox NoE wr.heap.size) b c gl gn v tb vL vW r ts ls ts ws W) => alike_any o hok h
      have HM1 := Lib.hid (fun W => may_any o.x hok W)
      have HM2 := Lib.hid (fun W => refMay_any o.x hok W)
      have hss : ∀ X, Blk X wr.heap.size 40 (opL o).toArray → X.rangeAt wr.heap.size 0 (opL o) ∧ X.rangeAt wr.heap.size 1 o.x := fun X h => ⟨blk_range h, (op_box hok h).2.1⟩
      have HDO := Lib.hid hdo; have HAL := Lib.hid hall; have HSS := Lib.hid hss
      have k0 : (0 : Int) ≤ (k : Int) := by omega
      have k1 : (k : Int) < (N : Int) := by omega
      clear hok hr ho HT HRW hdo hall hss
      generalize opL o = O at *
      generalize o.x = xx at *
      have HBX0 := Lib.hid hbx; have HTB0 := Lib.hid htb
      clear hbx htb
      go_upto_region 9 with (with_reducible (show wpList _ _ _ _ _ _); refine wpList_load_mid rfl 40 (.tmp 35) rfl bb (off + k * 32) rfl O _ HR.out Try.underlying40 rfl HIO.out ?_)
      clear hst hO32 HR
      have hB : Below (wr.alloc (.cells O.toArray 40)).heap.size (wr.alloc (.cells O.toArray 40)) (wr.alloc (.cells O.toArray 40)).drew := (Below.refl _ _).drew
      have HBX_W1 : Hid (Blk (wr.alloc (.cells O.toArray 40)).drew wr.heap.size 40 O.toArray) := Lib.hid (HBX0.out.below hB (Blk.lt HBX0.out))
      have HT_W1 := Lib.hid (HTB0.out.on hB)
      clear hB HBX0 HTB0
      generalize wr.alloc (.cells O.toArray 40) = W0 at *
      generalize wr.heap.size = ob at *
      generalize mayT xx = mx at *
      have tm : (mx != mx) = false := by cases mx <;> rfl
      have hs1 := HSS.out W0.drew HBX_W1.out
      refine wp_region_held_drew (S := fun X => X.rangeAt ob 0 O ∧ X.rangeAt ob 1 xx) (by kernel_rfl) hs1 (fun hHeld => ?_)
      clear hs1
      show wpAnyH _ _ _ _ _ _ _ _ _
      try dsimp only at hHeld
      generalize hW1 : W0.drew = W1 at *
      clear hW1 W0
      refine wpAnyH_take (i := 0) (v := ?_) rfl (by kernel_rfl) (by kernel_rfl) (by kernel_rfl) (fun _ _ _ h => h) (Or.inl ⟨by rfl, fun X hX => by (obtain ⟨z0, z1⟩ := hX; go_simp <;> with_reducible rfl)⟩) hHeld ?_
      go_simp
      refine wpAnyH_take (i := 1) (v := .agg xx.toArray) rfl (by kernel_rfl) (by kernel_rfl) (by kernel_rfl) (fun _ _ _ h => h) (yieldsIf_load_mid (by rfl) 38 (.tmp 37) rfl ob 1 rfl xx _ (fun X h => h.2) Try.underlying38 rfl HIXX.out) hHeld ?_
      go_simp
      refine wpAnyH_take (i := 3) (v := ?_) rfl (by kernel_rfl) (by kernel_rfl) (by kernel_rfl) (fun _ _ _ h => h) (Or.inl ⟨by rfl, fun X hX => by (obtain ⟨z0, z1⟩ := hX; go_simp <;> with_reducible rfl)⟩) hHeld ?_
      go_simp
      refine wpAnyH_take (i := 4) (v := .agg xx.toArray) rfl (by kernel_rfl) (by kernel_rfl) (by kernel_rfl) (fun _ _ _ h => h) (yieldsIf_load_mid (by rfl) 38 (.tmp 40) rfl ob 1 rfl xx _ (fun X h => h.2) Try.underlying38 rfl HIXX.out) hHeld ?_
      go_simp
      refine wpAnyH_ready (rs := [2]) (by kernel_rfl) (by simp) (AllReadyH.cons rfl (fun K hK => ?_) AllReadyH.nil)
      go_simp
      go_at_call 13
      refine (HM1.out W1).mono ?_
      rintro e w5 ⟨rfl, b_w5⟩
      have HB_w5 := Lib.hid b_w5
      have hbx := HBX_W1.out.below b_w5 (Blk.lt HBX_W1.out)
      have HBX_w5 := Lib.hid hbx
      have HT_w5 := Lib.hid (HT_W1.out.on b_w5)
      have hs := HSS.out w5 hbx
      clear hbx b_w5
      dsimp only
      (try (go_wp2_with fail))
      refine hK.out _ _ hs (fun hHeld => ?_)
      clear hK K hs
      refine wpAnyH_ready (rs := [5]) (by kernel_rfl) (by simp) (AllReadyH.cons rfl (fun K hK => ?_) AllReadyH.nil)
      go_simp
      go_at_call 14
      refine (HM2.out w5).mono ?_
      rintro e w6 ⟨rfl, b_w6⟩
      have HB_w6 := Lib.hid b_w6
      have hbx := HBX_w5.out.below b_w6 (Blk.lt HBX_w5.out)
      have HBX_w6 := Lib.hid hbx
      have HT_w6 := Lib.hid (HT_w5.out.on b_w6)
      have hs := HSS.out w6 hbx
      clear hbx b_w6
      dsimp only
      (try (go_wp2_with fail))
      refine hK.out _ _ hs (fun hHeld => ?_)
      clear hK K hs
      refine wpAnyH_take (i := 6) (v := ?_) rfl (by kernel_rfl) (by kernel_rfl) (by kernel_rfl) (fun _ _ _ h => h) (Or.inl ⟨by rfl, fun X hX => by (obtain ⟨z0, z1⟩ := hX; go_simp <;> with_reducible rfl)⟩) hHeld ?_
      go_simp
      refine wpAnyH_take (i := 7) (v := ?_) rfl (by kernel_rfl) (by kernel_rfl) (by kernel_rfl) (fun _ _ _ h => h) (Or.inl ⟨by rfl, fun X hX => by (obtain ⟨z0, z1⟩ := hX; go_simp <;> with_reducible rfl)⟩) hHeld ?_
      go_simp
      refine wpAnyH_take (i := 8) (v := ?_) rfl (by kernel_rfl) (by kernel_rfl) (by kernel_rfl) (fun _ _ _ h => h) (Or.inl ⟨by rfl, fun X hX => by (obtain ⟨z0, z1⟩ := hX; go_simp <;> with_reducible rfl)⟩) hHeld ?_
      go_simp
      refine wpAnyH_take (i := 9) (v := ?_) rfl (by kernel_rfl) (by kernel_rfl) (by kernel_rfl) (fun _ _ _ h => h) (Or.inl ⟨by rfl, fun X hX => by (obtain ⟨z0, z1⟩ := hX; go_simp <;> with_reducible rfl)⟩) hHeld ?_
      go_simp
      refine wpAnyH_take (i := 10) (v := .agg O.toArray) rfl (by kernel_rfl) (by kernel_rfl) (by kernel_rfl) (fun _ _ _ h => h) (yieldsIf_load_mid (by rfl) 40 (.tmp 8) rfl ob 0 rfl O _ (fun X h => h.1) Try.underlying40 rfl HIO.out) hHeld ?_
      go_simp
      refine wpAnyH_ready (rs := [11]) (by kernel_rfl) (by simp) (AllReadyH.cons rfl (fun K hK => ?_) AllReadyH.nil)
      go_simp
      go_at_call 15
      refine (HDO.out w6 HT_w6.out).mono ?_
      rintro e w7 ⟨rfl, v7, vL7, vW7, ts7, ls7, ws7, h7, r7, b7⟩
      have hbx : Blk w7 ob 40 O.toArray := Blk.but HBX_w6.out b7 (fun q => q.2 (.inr rfl))
      have HBX_w7 := Lib.hid hbx; have HT_w7 := Lib.hid h7; have HR7 := Lib.hid r7
      have hs := HSS.out w7 hbx
      clear hbx h7 r7 b7
      dsimp only
      (try (go_wp2_with fail))
      refine hK.out _ _ hs (fun hHeld => ?_)
      clear hK K hs
      go_simp
      refine wpAnyH_take (i := 12) (v := ?_) rfl (by kernel_rfl) (by kernel_rfl) (by kernel_rfl) (fun _ _ _ h => h) (Or.inl ⟨by rfl, fun X hX => by (obtain ⟨z0, z1⟩ := hX; go_simp <;> with_reducible rfl)⟩) hHeld ?_
      go_simp
      refine wpAnyH_take (i := 13) (v := ?_) rfl (by kernel_rfl) (by kernel_rfl) (by kernel_rfl) (fun _ _ _ h => h) (Or.inl ⟨by rfl, fun X hX => by (obtain ⟨z0, z1⟩ := hX; go_simp <;> with_reducible rfl)⟩) hHeld ?_
      go_simp
      refine wpAnyH_take (i := 14) (v := ?_) rfl (by kernel_rfl) (by kernel_rfl) (by kernel_rfl) (fun _ _ _ h => h) (Or.inl ⟨by rfl, fun X hX => by (obtain ⟨z0, z1⟩ := hX; go_simp <;> with_reducible rfl)⟩) hHeld ?_
      go_simp
      refine wpAnyH_take (i := 15) (v := ?_) rfl (by kernel_rfl) (by kernel_rfl) (by kernel_rfl) (fun _ _ _ h => h) (Or.inl ⟨by rfl, fun X hX => by (obtain ⟨z0, z1⟩ := hX; go_simp <;> with_reducible rfl)⟩) hHeld ?_
      go_simp
      refine wpAnyH_take (i := 16) (v := ?_) rfl (by kernel_rfl) (by kernel_rfl) (by kernel_rfl) (fun _ _ _ h => h) (Or.inl ⟨by rfl, fun X hX => by (obtain ⟨z0, z1⟩ := hX; go_simp <;> with_reducible rfl)⟩) hHeld ?_
      go_simp
      refine wpAnyH_take (i := 17) (v := .agg O.toArray) rfl (by kernel_rfl) (by kernel_rfl) (by kernel_rfl) (fun _ _ _ h => h) (yieldsIf_load_mid (by rfl) 40 (.tmp 8) rfl ob 0 rfl O _ (fun X h => h.1) Try.underlying40 rfl HIO.out) hHeld ?_
      go_simp
      refine wpAnyH_ready (rs := [18]) (by kernel_rfl) (by simp) (AllReadyH.cons rfl (fun K hK => ?_) AllReadyH.nil)
      go_simp
      go_at_call 16
      refine (HAL.out w7 v7 vL7 vW7 ts7 ls7 ws7 HT_w7.out).mono ?_
      rintro e w8 ⟨rfl, b8⟩
      have hbx := HBX_w7.out.below b8 (Blk.lt HBX_w7.out)
      have HT_w8 := Lib.hid (HT_w7.out.on b8)
      have hs := HSS.out w8 hbx
      clear hbx b8
      dsimp only
      (try (go_wp2_with fail))
      refine hK.out _ _ hs (fun hHeld => ?_)
      clear hK K hs
      go_simp
      refine wpAnyH_take (i := 19) (v := ?_) rfl (by kernel_rfl) (by kernel_rfl) (by kernel_rfl) (fun _ _ _ h => h) (Or.inl ⟨by rfl, fun X hX => by (obtain ⟨z0, z1⟩ := hX; go_simp <;> with_reducible rfl)⟩) hHeld ?_
      go_simp
      refine wpAnyH_take (i := 20) (v := ?_) rfl (by kernel_rfl) (by kernel_rfl) (by kernel_rfl) (fun _ _ _ h => h) (Or.inl ⟨by rfl, fun X hX => by (obtain ⟨z0, z1⟩ := hX; go_simp <;> with_reducible rfl)⟩) hHeld ?_
      go_simp
      refine wpAnyH_done (by kernel_rfl) ?_ _
      go_wp2_with fail
      go_roundw
      case rel => exact ⟨k + 1, v7, vL7, vW7, ts7, ls7, ws7, by go_num, by omega, HT_w8.out.unbox, HR7.out⟩
      case measure => simp [intOf]; omega
    · obtain rfl : k = N := by omega
      have tk : ¬ (k : Int) < (k : Int) := by omega
      have HB := Lib.hid HT.out.below
      clear HT HRW
      go_wp2_with fail
      refine (HLV.out _).mono ?_
      rintro e w9 ⟨rfl, h9⟩
      dsimp only
      have H9 := Lib.hid (HB.out.trans (h9.mono HB.out.size))
      clear h9
      go_wp2_with fail
      go_ret
      exact ⟨rfl, H9.out⟩
end Go.Proofs.Ytdlncbndhljhfaa
