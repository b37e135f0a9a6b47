/- The small questions, and the closures of an event's task (layer 19). -/
import Derived.Test.YtilaalleiiakoaaDoorKa
import Derived.Deep.RegionHeld3
import Derived.Test.YtilaalleiiakoaaDoorG0
namespace Go.Proofs.YtilaalleiiakoaaDoor
open Go.RowKit
set_option maxRecDepth 100000

theorem isTask_any (A : Option Addr) (n cap : Nat) (O : Value) (p : Nat → Bool) (t tk : Int) (w : World) :
    Calls Tryd.prog 29 #[flV (.slice A n cap) O p t, .int .i64 tk] w (GotB w.heap.size (.bool (decide (0 ≤ tk ∧ tk < (n : Int)))) w) := by
  have hb : Below w.heap.size w (w.alloc (.cells (flL (.slice A n cap) O p t).toArray 30)) := (Below.refl _ _).alloc (Nat.le_refl _) _
  have c0 := BF.c0 (Blk.new w 30 (flL (.slice A n cap) O p t).toArray)
  have HB := Lib.hid hb
  clear hb
  unfold flV
  obtain ⟨L, hL⟩ : ∃ L, flL (.slice A n cap) O p t = L := ⟨_, rfl⟩
  rw [hL] at HB c0 ⊢
  clear hL
  by_cases h0 : 0 ≤ tk
  · have t0 : decide (0 ≤ tk) = true := by simpa using h0
    by_cases h1 : tk < (n : Int)
    · have t1 : decide (tk < (n : Int)) = true := by simpa using h1
      rw [show decide (0 ≤ tk ∧ tk < (n : Int)) = true by simp; omega]
      go_enter Tryd.func29, Tryd.ntmps29
      go_wp2_with fail
      go_ret
      exact ⟨rfl, HB.out⟩
    · have t1 : decide (tk < (n : Int)) = false := by simpa using h1
      rw [show decide (0 ≤ tk ∧ tk < (n : Int)) = false by simp; omega]
      go_enter Tryd.func29, Tryd.ntmps29
      go_wp2_with fail
      go_ret
      exact ⟨rfl, HB.out⟩
  · have t0 : decide (0 ≤ tk) = false := by simpa using h0
    rw [show decide (0 ≤ tk ∧ tk < (n : Int)) = false by simp; omega]
    go_enter Tryd.func29, Tryd.ntmps29
    go_wp2_with fail
    go_ret
    exact ⟨rfl, HB.out⟩
theorem mayGoHome_any (s : Int) (w : World) : Calls Tryd.prog 55 #[.int .i64 s] w fun e w' => e = .returned (.bool (homeP s)) ∧ w = w' := by
  unfold homeP
  by_cases h0 : 0 ≤ s
  · have t0 : decide (0 ≤ s) = true := by simpa using h0
    by_cases h1 : s < 8
    · have t1 : decide (s < 8) = true := by simpa using h1
      by_cases h2 : s = 2
      · have t2 : (s != 2) = false := by simpa using h2
        rw [show decide (0 ≤ s ∧ s < 8 ∧ s ≠ 2) = false by simp; omega]
        go_enter Tryd.func55, Tryd.ntmps55
        go_wp2_with fail
        go_ret
        exact ⟨rfl, rfl⟩
      · have t2 : (s != 2) = true := by simpa using h2
        rw [show decide (0 ≤ s ∧ s < 8 ∧ s ≠ 2) = true by simp; omega]
        go_enter Tryd.func55, Tryd.ntmps55
        go_wp2_with fail
        go_ret
        exact ⟨rfl, rfl⟩
    · have t1 : decide (s < 8) = false := by simpa using h1
      rw [show decide (0 ≤ s ∧ s < 8 ∧ s ≠ 2) = false by simp; omega]
      go_enter Tryd.func55, Tryd.ntmps55
      go_wp2_with fail
      go_ret
      exact ⟨rfl, rfl⟩
  · have t0 : decide (0 ≤ s) = false := by simpa using h0
    rw [show decide (0 ≤ s ∧ s < 8 ∧ s ≠ 2) = false by simp; omega]
    go_enter Tryd.func55, Tryd.ntmps55
    go_wp2_with fail
    go_ret
    exact ⟨rfl, rfl⟩
theorem isWaitedFor_any (s : Int) (w : World) : Calls Tryd.prog 56 #[.int .i64 s] w fun e w' => e = .returned (.bool (waitP s)) ∧ w = w' := by
  unfold waitP
  by_cases h0 : s = 3
  · subst h0
    go_enter Tryd.func56, Tryd.ntmps56
    go_wp2_with fail
    go_ret
    exact ⟨rfl, rfl⟩
  · have t0 : (s == 3) = false := by simpa using h0
    by_cases h1 : s = 4
    · subst h1
      go_enter Tryd.func56, Tryd.ntmps56
      go_wp2_with fail
      go_ret
      exact ⟨rfl, rfl⟩
    · have t1 : (s == 4) = false := by simpa using h1
      by_cases h2 : s = 5
      · subst h2
        go_enter Tryd.func56, Tryd.ntmps56
        go_wp2_with fail
        go_ret
        exact ⟨rfl, rfl⟩
      · have t2 : (s == 5) = false := by simpa using h2
        rw [show decide (s = 3 ∨ s = 4 ∨ s = 5) = false by simp; omega]
        go_enter Tryd.func56, Tryd.ntmps56
        go_wp2_with fail
        go_ret
        exact ⟨rfl, rfl⟩
/-- Does it run on that worker? -/
def runB (cpu : Int) (x : FT) : Bool := decide (x.st = 2) && decide (x.on = cpu)
theorem isFree1_any (x : FT) (cpu : Int) (q : Nat) (w : World) (hq : w.cell? ⟨q, 0, none⟩ = some (.int .i64 cpu)) :
    Calls Tryd.prog 58 #[.agg (taskC x).toArray, .pointer (some ⟨q, 0, none⟩)] w (GotB w.heap.size (.bool (runB cpu x)) w) := by
  have hb : Below w.heap.size w (w.alloc (.cells (taskC x).toArray 45)) := (Below.refl _ _).alloc (Nat.le_refl _) _
  have c0 := (hb.cell (p := ⟨q, 0, none⟩) (lt_of_cell hq)).trans hq
  have HB := Lib.hid hb
  unfold runB
  obtain ⟨pg, pc, ⟨ra, rb, rc, rd⟩, st, on⟩ := x
  clear hb hq
  unfold taskC at *
  dsimp only at *
  by_cases h0 : st = 2
  · subst h0
    have t1 : (on == cpu) = decide (on = cpu) := rfl
    go_enter Tryd.func58, Tryd.ntmps58
    go_wp2_with fail
    go_ret
    exact ⟨rfl, HB.out⟩
  · have t0 : (st == 2) = false := by simpa using h0
    rw [show decide (st = 2) = false by simpa using h0]
    go_enter Tryd.func58, Tryd.ntmps58
    go_wp2_with fail
    go_ret
    exact ⟨rfl, HB.out⟩
/-- Where the first one runs on that worker. -/
def idxF (cpu : Int) : List FT → Nat → Int
  | [], _ => -1
  | x :: t, k => if runB cpu x = true then k else idxF cpu t (k + 1)
theorem idxF_busy (cpu : Int) : ∀ (l : List FT) (k : Nat), decide (0 ≤ idxF cpu l k) = busyP l cpu
  | [], k => rfl
  | x :: t, k => by
    unfold idxF busyP
    by_cases h : runB cpu x = true
    · rw [if_pos h, List.any_cons]
      unfold runB at h; rw [h]; simp
    · rw [if_neg h, List.any_cons]
      unfold runB at h
      rw [show (decide (x.st = 2) && decide (x.on = cpu)) = false by simpa using h, Bool.false_or]
      exact idxF_busy cpu t (k + 1)
abbrev fRun (q : Nat) : Value := .func (.func 58) #[] #[.pointer (some ⟨q, 0, none⟩)]
theorem infoFT : (Tryd.prog.info? 45).map (·.size) = some 8 := by kernel_rfl
set_option maxHeartbeats 2000000 in
theorem idxF_any {w : World} (A : Option Addr) (L : List FT) (cap : Nat) (cpu : Int) (hl : L.length ≤ 1000) (h : TsIn w A L) (q : Nat) (hq : w.cell? ⟨q, 0, none⟩ = some (.int .i64 cpu)) :
    Calls Tryd.prog 61 #[.slice A L.length cap, fRun q] w (GotB w.heap.size (.int .i64 (idxF cpu L 0)) w) := by
  have HQ := Lib.hid hq
  have HR := Lib.hid h
  obtain ⟨R, hR⟩ : ∃ R, idxF cpu L 0 = R := ⟨_, rfl⟩
  have HE := Lib.hid hR
  rw [hR]
  clear h hR hq
  obtain ⟨n, hn⟩ : ∃ n, L.length = n := ⟨_, rfl⟩
  rw [hn] at hl ⊢
  have HN := Lib.hid hn
  have HI := Lib.hid infoFT
  clear hn
  unfold fRun
  go_enter Tryd.func61, Tryd.ntmps61
  go_wp2_with fail
  go_loopw [8] (fun iv wr => ∃ k : Nat, iv = .int .i64 k ∧ k ≤ n ∧ Below w.heap.size w wr ∧ idxF cpu (L.drop k) k = R) (fun iv _ => n - (intOf iv).toNat)
  case atStart => exact ⟨0, rfl, Nat.zero_le _, Below.refl _ _, by simpa using HE.out⟩
  case round =>
    obtain ⟨k, rfl, hk, hb, hr0⟩ := hrel
    by_cases hlt : k < n
    · have hn := HN.out
      obtain ⟨r, hr⟩ : ∃ r, L[k]? = some r := ⟨_, List.getElem?_eq_getElem (by omega)⟩
      have hd : L.drop k = r :: L.drop (k + 1) := by
        rw [List.drop_eq_getElem_cons (by omega)]
        congr 1
        rw [List.getElem?_eq_getElem (by omega)] at hr; simpa using hr
      rw [hd] at hr0
      obtain ⟨g, off, rfl, hg, hrow⟩ := (HR.out.below hb) k r hr
      have P := Lib.hid (isFree1_any r cpu q wr ((hb.cell (p := ⟨q, 0, none⟩) (lt_of_cell HQ.out)).trans HQ.out))
      have HROW := Lib.hid hrow
      have HB := Lib.hid hb; have HR0 := Lib.hid hr0
      have k0 : (0 : Int) ≤ (k : Int) := by omega
      have k1 : (k : Int) < (n : Int) := by omega
      clear hrow hb hr0 hd hr hn
      unfold idxF at HR0
      obtain ⟨b, hbv⟩ : ∃ b, runB cpu r = b := ⟨_, rfl⟩
      rw [hbv] at P HR0
      clear hbv
      obtain ⟨C, hC⟩ : ∃ C, taskC r = C := ⟨_, rfl⟩
      have HIC : Hid ((Tryd.prog.info? 45).map (·.size) = some C.length) := by show _ = _; rw [← hC]; exact HI.out
      rw [hC] at P HROW
      clear hC HI
      cases b with
      | true =>
        go_wp2_with (first
          | (with_reducible (show wpList _ _ _ _ _ _); refine wpList_load_mid rfl 45 (.tmp 14) rfl g (off + k * 8) (by go_simp) C _ HROW.out Tryd.underlying45 rfl HIC.out ?_)
          | (go_at_call 58; (with_reducible refine P.out.mono ?_); rintro e w3 ⟨rfl, h3⟩; have HB3 := Lib.hid (HB.out.trans (h3.mono HB.out.size)); clear h3))
        go_ret
        have e := HR0.out
        simp only [↓reduceIte] at e
        exact ⟨by rw [← e] <;> rfl, HB3.out⟩
      | false =>
        go_wp2_with (first
          | (with_reducible (show wpList _ _ _ _ _ _); refine wpList_load_mid rfl 45 (.tmp 14) rfl g (off + k * 8) (by go_simp) C _ HROW.out Tryd.underlying45 rfl HIC.out ?_)
          | (go_at_call 58; (with_reducible refine P.out.mono ?_); rintro e w3 ⟨rfl, h3⟩; have HB3 := Lib.hid (HB.out.trans (h3.mono HB.out.size)); clear h3))
        go_roundw
        case rel =>
          have e := HR0.out
          rw [if_neg (by simp)] at e
          exact ⟨k + 1, by go_num, by omega, HB3.out, e⟩
        case measure => simp [intOf]; omega
    · obtain rfl : k = n := by omega
      have tk : ¬ (k : Int) < (k : Int) := by omega
      have HB := Lib.hid hb; have HR0 := Lib.hid hr0
      clear hb hr0
      go_wp2_with fail
      go_ret
      have e := HR0.out
      rw [List.drop_of_length_le (by rw [HN.out]; exact Nat.le_refl _)] at e
      exact ⟨by rw [← e] <;> rfl, HB.out⟩
theorem contF_any {w : World} (A : Option Addr) (L : List FT) (cap : Nat) (cpu : Int) (hl : L.length ≤ 1000) (h : TsIn w A L) (q : Nat) (hq : w.cell? ⟨q, 0, none⟩ = some (.int .i64 cpu)) :
    Calls Tryd.prog 59 #[.slice A L.length cap, fRun q] w (GotB w.heap.size (.bool (busyP L cpu)) w) := by
  have P := Lib.hid (idxF_any A L cap cpu hl h q hq)
  have he := idxF_busy cpu L 0
  generalize L.length = n at *
  generalize idxF cpu L 0 = R at *
  clear h hq
  unfold fRun at *
  go_enter Tryd.func59, Tryd.ntmps59
  go_wp2_with fail
  refine P.out.mono ?_
  rintro e w2 ⟨rfl, h2⟩
  dsimp only
  go_wp2_with fail
  go_ret
  exact ⟨by rw [← he] <;> rfl, h2⟩

set_option maxRecDepth 100000

set_option maxHeartbeats 2000000 in
theorem isFree_any {w : World} (A : Option Addr) (L : List FT) (cap : Nat) (O : Value) (p : Nat → Bool) (t cpu : Int) (hl : L.length ≤ 1000) (h : TsIn w A L) :
    Calls Tryd.prog 50 #[flV (.slice A L.length cap) O p t, .int .i64 cpu] w (GotB w.heap.size (.bool (hasP p cpu && !busyP L cpu)) w) := by
  have hb1 : Below w.heap.size w (w.alloc (.cells (flL (.slice A L.length cap) O p t).toArray 30)) := (Below.refl _ _).alloc (Nat.le_refl _) _
  have hb2 : Below w.heap.size w ((w.alloc (.cells (flL (.slice A L.length cap) O p t).toArray 30)).alloc (.cells #[.int .i64 cpu] 3)) := hb1.alloc hb1.size _
  have hbf : BF ((w.alloc (.cells (flL (.slice A L.length cap) O p t).toArray 30)).alloc (.cells #[.int .i64 cpu] 3)) w.heap.size (.slice A L.length cap) O p t := (Blk.new w _ _).alloc _
  have hbc : Blk ((w.alloc (.cells (flL (.slice A L.length cap) O p t).toArray 30)).alloc (.cells #[.int .i64 cpu] 3)) (w.heap.size + 1) 3 #[.int .i64 cpu] := by
    have := Blk.new (w.alloc (.cells (flL (.slice A L.length cap) O p t).toArray 30)) 3 #[.int .i64 cpu]
    simpa using this
  have ht2 := h.below hb2
  unfold flV
  obtain ⟨X, hX⟩ : ∃ X, flL (.slice A L.length cap) O p t = X := ⟨_, rfl⟩
  rw [hX] at hb2 hbc ht2 ⊢
  rw [show (flL (.slice A L.length cap) O p t).toArray = X.toArray by rw [hX]] at hbf
  have HBF := Lib.hid hbf
  clear hb1 h hbf
  obtain ⟨b, hbv⟩ : ∃ b, hasP p cpu = b := ⟨_, rfl⟩
  have HBV := Lib.hid hbv
  obtain ⟨R, hR⟩ : ∃ R, (b && !busyP L cpu) = R := ⟨_, rfl⟩
  rw [hbv, hR]
  have HRR := Lib.hid hR
  clear hbv hR
  go_enter Tryd.func50, Tryd.ntmps50
  go_upto_region 2 with fail
  generalize (w.alloc (.cells X.toArray 30)).alloc (.cells #[.int .i64 cpu] 3) = W at *
  have HBF' := HBF
  clear HBF
  have hs := BF.set HBF'.out
  have HS := Lib.hid hs; have HB := Lib.hid hb2
  have HP := Lib.hid (shas_any p cpu W)
  have c1 := hbc.cell 0
  have HBC := Lib.hid hbc
  have HT := Lib.hid ht2
  have HIS : Hid ((Tryd.prog.info? 24).map (·.size) = some (cellsOf p).toList.length) := by show _ = _; rw [infoSetS]; simp [cellsOf]
  rw [HBV.out] at HP
  clear hX hbc ht2 hs hb2 HBV
  cases b with
  | false =>
    obtain rfl : R = false := by rw [← HRR.out]; rfl
    go_wp2_with (first
      | (with_reducible (show wpList _ _ _ _ _ _); refine wpList_load_mid rfl 24 (.tmp 7) rfl w.heap.size 1 rfl (cellsOf p).toList _ HS.out Tryd.underlying24 rfl HIS.out ?_)
      | (go_at_call 26; (try rw [Array.toArray_toList]); (with_reducible refine HP.out.mono ?_); rintro e w3 ⟨rfl, h3⟩; have HB3 := Lib.hid (HB.out.trans (h3.mono HB.out.size)); clear h3))
    go_ret
    exact ⟨rfl, HB3.out⟩
  | true =>
    obtain rfl : R = !busyP L cpu := by rw [← HRR.out]; rfl
    go_wp2_with (first
      | (with_reducible (show wpList _ _ _ _ _ _); refine wpList_load_mid rfl 24 (.tmp 7) rfl w.heap.size 1 rfl (cellsOf p).toList _ HS.out Tryd.underlying24 rfl HIS.out ?_)
      | (go_at_call 26; (try rw [Array.toArray_toList]); (with_reducible refine HP.out.mono ?_); rintro e w3 ⟨rfl, h3⟩; have HB3 := Lib.hid (HB.out.trans (h3.mono HB.out.size)); have c0 := BF.c0 (Blk.below HBF'.out h3 HBF'.out.lt); have HC := Lib.hid (contF_any A L cap cpu hl (HT.out.below h3) (w.heap.size + 1) ((Blk.below HBC.out h3 HBC.out.lt).cell 0)); clear h3)
      | (go_at_call 59; (with_reducible refine HC.out.mono ?_); rintro e w4 ⟨rfl, h4⟩; have HB4 := Lib.hid (HB3.out.trans (h4.mono HB3.out.size)); clear h4))
    go_ret
    exact ⟨rfl, HB4.out⟩
theorem is_any (x : FT) (s o : Int) (q g a : Nat) (w : World) (hq : w.cell? ⟨q, 0, none⟩ = some (.pointer (some ⟨g, a, none⟩))) (h6 : w.cell? ⟨g, a + 6, none⟩ = some (.int .i64 x.st)) (h7 : w.cell? ⟨g, a + 7, none⟩ = some (.int .i64 x.on)) :
    Calls Tryd.prog 52 #[.int .i64 s, .int .i64 o, .pointer (some ⟨q, 0, none⟩)] w fun e w' => e = .returned (.bool (decide (x.st = s ∧ x.on = o))) ∧ w = w' := by
  by_cases h0 : x.st = s
  · rw [h0] at h6
    have t1 : (s == s) = true := by simp
    have t2 : (x.on == o) = decide (x.on = o) := rfl
    rw [show decide (x.st = s ∧ x.on = o) = decide (x.on = o) by rw [decide_eq_decide]; simp [h0]]
    go_enter Tryd.func52, Tryd.ntmps52
    go_wp2_with fail
    go_ret
    exact ⟨rfl, rfl⟩
  · have t1 : (x.st == s) = false := by simpa using h0
    rw [show decide (x.st = s ∧ x.on = o) = false by simp [h0]]
    go_enter Tryd.func52, Tryd.ntmps52
    go_wp2_with fail
    go_ret
    exact ⟨rfl, rfl⟩
theorem goes_no (s o : Int) (q : Nat) (w : World) :
    Calls Tryd.prog 53 #[.bool false, .int .i64 s, .int .i64 o, .pointer (some ⟨q, 0, none⟩)] w fun e w' => e = .returned (.bool false) ∧ w = w' := by
  go_enter Tryd.func53, Tryd.ntmps53
  go_wp2_with fail
  go_ret
  exact ⟨rfl, rfl⟩
theorem goes_yes (s o : Int) (q g a : Nat) (w : World) (hq : w.cell? ⟨q, 0, none⟩ = some (.pointer (some ⟨g, a, none⟩))) (u6 u7 : Value) (h6 : w.cell? ⟨g, a + 6, none⟩ = some u6) (h7 : w.cell? ⟨g, a + 7, none⟩ = some u7) (hf6 : w.frozen? ⟨g, a + 6, none⟩ = false) (hf7 : w.frozen? ⟨g, a + 7, none⟩ = false) :
    Calls Tryd.prog 53 #[.bool true, .int .i64 s, .int .i64 o, .pointer (some ⟨q, 0, none⟩)] w fun e w' => e = .returned (.bool true) ∧ (w' = ((w.setCell ⟨g, a + 6, none⟩ (.int .i64 s)).setCell ⟨g, a + 7, none⟩ (.int .i64 o)).drew ∨ w' = ((w.setCell ⟨g, a + 7, none⟩ (.int .i64 o)).setCell ⟨g, a + 6, none⟩ (.int .i64 s)).drew) := by
  go_enter Tryd.func53, Tryd.ntmps53
  go_wp2_with fail
  go_region
  all_goals
    go_wp2_with fail
    go_ret
    first
      | exact ⟨rfl, .inl rfl⟩
      | exact ⟨rfl, .inr rfl⟩

set_option maxRecDepth 100000

theorem in32_wrap {n : Int} (h : In32 n) : wrap32 n = n := by unfold wrap32; unfold In32 at h; omega
theorem in32_not {n : Int} (h : ¬ In32 n) : (wrap64 (wrap32 n) != n) = true := by
  have : wrap64 (wrap32 n) ≠ n := fun e => h (by unfold wrap64 wrap32 at e; unfold In32; omega)
  simpa using this
theorem setReg_no (r n : Int) (g a : Nat) (w : World) (h : ¬ (0 ≤ r ∧ r < 4 ∧ In32 n)) :
    Calls Tryd.prog 57 #[.pointer (some ⟨g, a, none⟩), .int .i64 r, .int .i64 n] w fun e w' => e = .returned (.bool false) ∧ w = w' := by
  by_cases h0 : r < 0
  · have t0 : decide (r < 0) = true := by simpa using h0
    go_enter Tryd.func57, Tryd.ntmps57
    go_wp2_with fail
    go_ret
    exact ⟨rfl, rfl⟩
  · have t0 : decide (r < 0) = false := by simpa using h0
    by_cases h1 : 4 ≤ r
    · have t1 : decide (4 ≤ r) = true := by simpa using h1
      go_enter Tryd.func57, Tryd.ntmps57
      go_wp2_with fail
      go_ret
      exact ⟨rfl, rfl⟩
    · have t1 : decide (4 ≤ r) = false := by simpa using h1
      have t2 := in32_not (fun q => h ⟨by omega, by omega, q⟩ : ¬ In32 n)
      go_enter Tryd.func57, Tryd.ntmps57
      go_wp2_with fail
      go_ret
      exact ⟨rfl, rfl⟩
theorem setReg_yes (r : Nat) (n : Int) (g a : Nat) (w : World) (hr : r < 4) (hn : In32 n) (u : Value) (hc : w.cell? ⟨g, a + 2 + r, none⟩ = some u) (hf : w.frozen? ⟨g, a + 2 + r, none⟩ = false) :
    Calls Tryd.prog 57 #[.pointer (some ⟨g, a, none⟩), .int .i64 r, .int .i64 n] w fun e w' => e = .returned (.bool true) ∧ w' = w.setCell ⟨g, a + 2 + r, none⟩ (.int .i32 n) := by
  have hw := in32_wrap hn
  have hw64 : wrap64 n = n := by unfold wrap64; unfold In32 at hn; omega
  have t0 : decide ((r : Int) < 0) = false := by simp
  have t1 : decide ((4 : Int) ≤ (r : Int)) = false := by simp; omega
  have t2 : (n != n) = false := by simp
  have k0 : (0 : Int) ≤ (r : Int) := by omega
  have k1 : (r : Int) < 4 := by omega
  have k2 : (r : Int) < ((4 : Nat) : Int) := by omega
  go_enter Tryd.func57, Tryd.ntmps57
  go_wp2_with fail
  go_ret
  exact ⟨rfl, rfl⟩
def PassG (l : List Int) (O : Value) (new : Int) (R : Option (List Int)) (w : World) (e : Ending) (w' : World) : Prop :=
  (R = none ∧ e = .returned (.bool false) ∧ w' = w) ∨ ∃ (k g cap : Nat), R = some (l.set k new) ∧ e = .returned (.bool true) ∧ O = .slice (some ⟨g, 0, none⟩) l.length cap ∧ k < l.length ∧ w' = w.setCell ⟨g, k, none⟩ (.int .i64 new)
set_option maxHeartbeats 1000000 in
theorem pass_any {w : World} {B : Nat} {O : Value} (l : List Int) (i old new : Int) (h : w.ownsRow B 3 1 O l.length (numC l)) :
    Calls Tryd.prog 41 #[O, .int .i64 i, .int .i64 old, .int .i64 new] w (PassG l O new (passP l i old new) w) := by
  by_cases h0 : 0 ≤ i ∧ i < (l.length : Int)
  · obtain ⟨k, rfl⟩ := Int.eq_ofNat_of_zero_le h0.1
    have hk : k < l.length := by omega
    obtain ⟨x, hx⟩ : ∃ x, l[k]? = some x := ⟨_, List.getElem?_eq_getElem hk⟩
    rcases rowForm h with ⟨-, e⟩ | ⟨g, cap, rfl⟩
    · omega
    · have c := h.cellAt k (by omega)
      rw [show (numC l)[k]? = some (.int .i64 x) by simp [numC, hx]] at c
      have f := h.frozenAt k
      have t0 : decide ((k : Int) < 0) = false := by simp
      have t1 : decide ((l.length : Int) ≤ (k : Int)) = false := by simp; omega
      have k0 : (0 : Int) ≤ (k : Int) := by omega
      have k1 : (k : Int) < (l.length : Int) := by omega
      have HX := Lib.hid hx
      clear h hx h0
      obtain ⟨R, hR⟩ : ∃ R, passP l (k : Int) old new = R := ⟨_, rfl⟩
      rw [hR]
      unfold passP at hR
      rw [show ((k : Int)).toNat = k by omega, HX.out] at hR
      generalize hN : l.length = N at *
      by_cases hxo : x = old
      · subst hxo
        rw [if_pos ⟨k0, rfl⟩] at hR
        have t2 : (x != x) = false := by simp
        have HR := Lib.hid hR
        clear hR
        go_enter Tryd.func41, Tryd.ntmps41
        go_wp2_with fail
        go_ret
        exact .inr ⟨k, g, cap, HR.out.symm, rfl, by rw [hN], by rw [hN]; exact hk, rfl⟩
      · rw [if_neg (fun q => hxo (Option.some.inj q.2))] at hR
        have t2 : (x != old) = true := by simpa using hxo
        have HR := Lib.hid hR
        clear hR
        go_enter Tryd.func41, Tryd.ntmps41
        go_wp2_with fail
        go_ret
        exact .inl ⟨HR.out.symm, rfl, rfl⟩
  · have hR : passP l i old new = none := by
      unfold passP; rw [if_neg]; rintro ⟨a, b⟩
      have := (List.getElem?_eq_some_iff.1 b).1; omega
    rw [hR]
    obtain ⟨A, cap, rfl⟩ : ∃ A cap, O = .slice A l.length cap := by
      rcases rowForm h with ⟨e, q⟩ | ⟨g, cap, e⟩
      · exact ⟨none, 0, by rw [e, q]⟩
      · exact ⟨_, cap, e⟩
    clear h hR
    generalize l.length = N at *
    by_cases h1 : i < 0
    · have t0 : decide (i < 0) = true := by simpa using h1
      go_enter Tryd.func41, Tryd.ntmps41
      go_wp2_with fail
      go_ret
      exact .inl ⟨rfl, rfl, rfl⟩
    · have t0 : decide (i < 0) = false := by simpa using h1
      have t1 : decide ((N : Int) ≤ i) = true := by simp; omega
      go_enter Tryd.func41, Tryd.ntmps41
      go_wp2_with fail
      go_ret
      exact .inl ⟨rfl, rfl, rfl⟩

set_option maxRecDepth 100000

section
variable {w : World} {B g cap : Nat} {O : Value} {ts : List FT} {ow : List Int} {i : Nat} {x : FT}
theorem OwnF.turn2 (h : OwnF w B (.slice (some ⟨g, 0, none⟩) ts.length cap) O ts ow) (hx : ts[i]? = some x) (y z : FT) (j k : Nat) (u v : Value) (hj : j < 8) (hk : k < 8) (hy : (taskC x).set j u = taskC y) (hz : (taskC y).set k v = taskC z) :
    OwnF ((w.setCell ⟨g, i * 8 + j, none⟩ u).setCell ⟨g, i * 8 + k, none⟩ v) B (.slice (some ⟨g, 0, none⟩) ts.length cap) O (ts.set i z) ow ∧ But (fun k => k = g) w ((w.setCell ⟨g, i * 8 + j, none⟩ u).setCell ⟨g, i * 8 + k, none⟩ v) := by
  have hil := (List.getElem?_eq_some_iff.1 hx).1
  have h1 := h.turn hx j u hj hy
  have hl : (ts.set i y).length = ts.length := by simp
  rw [← hl] at h1
  have h2 := h1.turn (i := i) (x := y) (y := z) (by simp [hil]) k v hk hz
  rw [hl, List.set_set] at h2
  exact ⟨h2, ((But.refl (fun k => k = g) w).set _ _ (.inl rfl)).set _ _ (.inl rfl)⟩
theorem OwnF.drew {F : Value} {us : List FT} (h : OwnF w B F O us ow) : OwnF w.drew B F O us ow := ⟨h.tk, h.ow⟩
theorem goes_any (h : OwnF w B (.slice (some ⟨g, 0, none⟩) ts.length cap) O ts ow) (hx : ts[i]? = some x) (b : Bool) (s o : Int) (q : Nat) (hq : w.cell? ⟨q, 0, none⟩ = some (.pointer (some ⟨g, i * 8, none⟩))) :
    Calls Tryd.prog 53 #[.bool b, .int .i64 s, .int .i64 o, .pointer (some ⟨q, 0, none⟩)] w (TaskG w B g cap O ts ow i (if b = true then some { x with st := s, on := o } else none)) := by
  cases b with
  | false =>
    refine (goes_no s o q w).mono ?_
    rintro e w' ⟨rfl, rfl⟩
    exact ⟨rfl, .inl ⟨rfl, Below.refl _ _⟩⟩
  | true =>
    have hc := h.cells hx
    refine (goes_yes s o q g (i * 8) w hq _ _ (hc 6 _ rfl) (hc 7 _ rfl) (h.free _) (h.free _)).mono ?_
    rintro e w' ⟨rfl, rfl | rfl⟩
    · obtain ⟨k1, k2⟩ := h.turn2 hx { x with st := s } { x with st := s, on := o } 6 7 (.int .i64 s) (.int .i64 o) (by omega) (by omega) rfl rfl
      exact ⟨rfl, .inr ⟨_, rfl, k1.drew, k2.drew⟩⟩
    · obtain ⟨k1, k2⟩ := h.turn2 hx { x with on := o } { x with st := s, on := o } 7 6 (.int .i64 o) (.int .i64 s) (by omega) (by omega) rfl rfl
      exact ⟨rfl, .inr ⟨_, rfl, k1.drew, k2.drew⟩⟩
theorem OwnF.step (h : OwnF w B (.slice (some ⟨g, 0, none⟩) ts.length cap) O ts ow) (hx : ts[i]? = some x) (n : Int) (r : R4) :
    OwnF (((((w.setCell ⟨g, i * 8 + 1, none⟩ (.int .i64 n)).setCell ⟨g, i * 8 + 2, none⟩ (.int .i32 r.a)).setCell ⟨g, i * 8 + 3, none⟩ (.int .i32 r.b)).setCell ⟨g, i * 8 + 4, none⟩ (.int .i32 r.c)).setCell ⟨g, i * 8 + 5, none⟩ (.int .i32 r.d)) B (.slice (some ⟨g, 0, none⟩) ts.length cap) O (ts.set i { x with pc := n, r := r }) ow ∧
    But (fun k => k = g) w (((((w.setCell ⟨g, i * 8 + 1, none⟩ (.int .i64 n)).setCell ⟨g, i * 8 + 2, none⟩ (.int .i32 r.a)).setCell ⟨g, i * 8 + 3, none⟩ (.int .i32 r.b)).setCell ⟨g, i * 8 + 4, none⟩ (.int .i32 r.c)).setCell ⟨g, i * 8 + 5, none⟩ (.int .i32 r.d)) := by
  obtain ⟨k1, k2⟩ := h.turn2 hx { x with pc := n } { x with pc := n, r := ⟨r.a, x.r.b, x.r.c, x.r.d⟩ } 1 2 (.int .i64 n) (.int .i32 r.a) (by omega) (by omega) rfl rfl
  have hil := (List.getElem?_eq_some_iff.1 hx).1
  have hl : ∀ z : FT, (ts.set i z).length = ts.length := fun z => by simp
  rw [← hl { x with pc := n, r := ⟨r.a, x.r.b, x.r.c, x.r.d⟩ }] at k1
  obtain ⟨k3, k4⟩ := k1.turn2 (i := i) (x := { x with pc := n, r := ⟨r.a, x.r.b, x.r.c, x.r.d⟩ }) (by simp [hil]) { x with pc := n, r := ⟨r.a, r.b, x.r.c, x.r.d⟩ } { x with pc := n, r := ⟨r.a, r.b, r.c, x.r.d⟩ } 3 4 (.int .i32 r.b) (.int .i32 r.c) (by omega) (by omega) rfl rfl
  rw [List.set_set, hl, ← hl { x with pc := n, r := ⟨r.a, r.b, r.c, x.r.d⟩ }] at k3
  have k5 := k3.turn (i := i) (x := { x with pc := n, r := ⟨r.a, r.b, r.c, x.r.d⟩ }) (y := { x with pc := n, r := r }) (by simp [hil]) 5 (.int .i32 r.d) (by omega) rfl
  rw [List.set_set, hl] at k5
  exact ⟨k5, (k2.trans k4).set _ _ (.inl rfl)⟩
theorem setReg_any (h : OwnF w B (.slice (some ⟨g, 0, none⟩) ts.length cap) O ts ow) (hx : ts[i]? = some x) (r n : Int) :
    Calls Tryd.prog 57 #[.pointer (some ⟨g, i * 8, none⟩), .int .i64 r, .int .i64 n] w (TaskG w B g cap O ts ow i (if 0 ≤ r ∧ r < 4 ∧ In32 n then some { x with r := x.r.put r.toNat n } else none)) := by
  by_cases hr : 0 ≤ r ∧ r < 4 ∧ In32 n
  · rw [if_pos hr]
    obtain ⟨k, rfl⟩ := Int.eq_ofNat_of_zero_le hr.1
    have hk : k < 4 := by omega
    have hc := h.cells hx
    have key : ∀ u, (taskC x)[2 + k]? = some u → (taskC x).set (2 + k) (.int .i32 n) = taskC { x with r := x.r.put k n } → Calls Tryd.prog 57 #[.pointer (some ⟨g, i * 8, none⟩), .int .i64 k, .int .i64 n] w (TaskG w B g cap O ts ow i (some { x with r := x.r.put k n })) := fun u hu hs => by
      refine (setReg_yes k n g (i * 8) w hk hr.2.2 u ?_ (h.free _)).mono ?_
      · have := hc (2 + k) u hu
        rw [Nat.add_assoc]; exact this
      · rintro e w' ⟨rfl, rfl⟩
        rw [Nat.add_assoc]
        exact ⟨rfl, .inr ⟨_, rfl, h.turn hx (2 + k) _ (by omega) hs, (But.refl (fun k => k = g) w).set _ _ (.inl rfl)⟩⟩
    rw [show ((k : Int)).toNat = k by omega]
    match k, hk with
    | 0, _ => exact key _ rfl rfl
    | 1, _ => exact key _ rfl rfl
    | 2, _ => exact key _ rfl rfl
    | 3, _ => exact key _ rfl rfl
  · rw [if_neg hr]
    refine (setReg_no r n g (i * 8) w hr).mono ?_
    rintro e w' ⟨rfl, rfl⟩
    exact ⟨rfl, .inl ⟨rfl, Below.refl _ _⟩⟩
end
end Go.Proofs.YtilaalleiiakoaaDoor
