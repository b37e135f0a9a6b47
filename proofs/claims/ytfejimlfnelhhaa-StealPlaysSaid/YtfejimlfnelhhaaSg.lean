/- Layer 28's law file: run. -/
import Derived.Test.YtfejimlfnelhhaaSi
import Derived.Test.YtfejimlfnelhhaaOp
import Derived.Test.YtfejimlfnelhhaaSn
import Derived.Test.YtfejimlfnelhhaaRd
import Derived.ChangeMaps5
namespace Go.Proofs.Ytfejimlfnelhhaa
open Go.RowKit

theorem Inv.congrT {D : Dq} {nxt : Nat} {T : Nat → Int} (h : Inv D nxt T) {D' : Dq} (h0 : D'.cl 0 = D.cl 0 ∨ (D.cl 0).nx = 0 ∧ (D'.cl 0).nx = 5 ∧ (D'.cl 0).won = false) (ht : D'.top = D.top) (hb : D'.bot = D.bot) (hs : D'.sl = D.sl) (hr : D'.room = D.room) (hk : ∀ k, 1 ≤ k → D'.cl k = D.cl k ∨ (D'.cl k).nx = 10) : Inv D' nxt T := by
  have hw := h.w; have htt := h.t
  have hbn : bndP D.bot (D'.cl 0) = bndP D.bot (D.cl 0) := by
    rcases h0 with h0 | ⟨a, b, c⟩
    · rw [h0]
    · unfold bndP; rw [a, b]; rfl
  constructor
  · rw [ht, hb, hs, hr]
    rcases h0 with h0 | ⟨a, b, c⟩
    · rw [h0]; exact hw
    · unfold InvW at hw ⊢
      rw [a] at hw; rw [b]
      exact ⟨hw, c⟩
  · intro k k1
    rw [ht, hb, hs, hr, hbn]
    rcases hk k k1 with q | q
    · rw [q]; exact htt k k1
    · exact ⟨fun a => by omega, fun a => by omega, fun a => by omega⟩
theorem Inv.pop {D : Dq} {nxt : Nat} {T : Nat → Int} (h : Inv D nxt T) : Inv (beginR D 0 5 0) nxt T := by
  unfold beginR
  split
  · split
    · rename_i hq
      refine h.congrT (.inr ⟨hq, ?_, ?_⟩) rfl rfl rfl rfl fun k k1 => .inl (updC_other _ _ (by show k ≠ 0; omega))
      · simp [beginD, updC]
      · simp [beginD, updC]
    · exact h
  · exact h
theorem Inv.steal {D : Dq} {nxt : Nat} {T : Nat → Int} (h : Inv D nxt T) (k : Int) : Inv (stealR D k) nxt T := by
  unfold stealR
  split
  · exact h
  · rename_i hk
    unfold beginR
    split
    · rename_i hi
      have hk1 : 1 ≤ k.toNat := by simp [inS] at hi; omega
      split
      · refine h.congrT (.inl (updC_other _ _ (by omega))) rfl rfl rfl rfl fun j j1 => ?_
        by_cases q : j = k.toNat
        · right; show (updC D.cl k.toNat _ j).nx = 10; rw [q, updC_same]
        · left; exact updC_other _ _ q
      · exact h
    · exact h
theorem beginE_or (D : Dq) (k : Int) : beginE D k = 0 ∨ beginE D k = 1 ∨ beginE D k = 5 := by
  unfold beginE; split
  · split
    · exact .inl rfl
    · exact .inr (.inr rfl)
  · exact .inr (.inl rfl)
theorem Inv.push {D : Dq} {nxt : Nat} {T : Nat → Int} (h : Inv D nxt T) (he : beginE D 0 = 0) : Inv (beginR D 0 1 nxt) (nxt + 1) (updS T nxt 0) := by
  unfold beginE at he
  unfold beginR
  split at he
  · rename_i hi
    split at he
    · rename_i hq
      rw [if_pos hi, if_pos hq]
      have hw := h.w; have ht := h.t
      have hq' : (D.cl 0).nx = 0 := hq
      unfold InvW at hw
      rw [hq'] at hw
      refine ⟨?_, fun k k1 => ?_⟩
      · show InvW D.top D.bot D.sl D.room (updC D.cl 0 _ 0) (nxt + 1) (updS T nxt 0)
        rw [updC_same]
        exact ⟨hw.begin, by show (nxt : Int) = ((nxt + 1 : Nat) : Int) - 1; omega, by have := hw.n1; omega⟩
      · show InvT D.top (bndP D.bot (updC D.cl 0 _ 0)) D.sl D.room (updC D.cl 0 _ k)
        rw [updC_same, updC_other _ _ (show k ≠ 0 by omega)]
        have := ht k k1
        unfold bndP at this
        rw [hq'] at this
        exact this
    · omega
  · omega
theorem beginR_no {D : Dq} {k : Int} {n : Nat} {x : Int} (he : beginE D k ≠ 0) : beginR D k n x = D := by
  unfold beginE at he
  unfold beginR
  split at he
  · rename_i hi
    split at he
    · exact absurd rfl he
    · rename_i hq; rw [if_pos hi, if_neg hq]
  · rename_i hi; rw [if_neg hi]
/-- A step by anybody. -/
theorem Inv.stR {D : Dq} {n nxt : Nat} {T : Nat → Int} (h : Inv D nxt T) (hN : Nice D n) (k : Int) :
    (stH D k = 1 → ∃ v : Nat, stX D k = v ∧ 1 ≤ v ∧ v < nxt ∧ T v = 0) ∧ (stH D k = 4 → 2 ≤ nxt) ∧ Inv (stR D k) nxt (afterT (stH D k) (stX D k) nxt T) := by
  unfold stH stX Go.Proofs.Ytfejimlfnelhhaa.stR
  split
  · split
    · exact ⟨fun q => by omega, fun q => by omega, h⟩
    · rename_i hq; exact h.step hN _ hq
  · exact ⟨fun q => by omega, fun q => by omega, h⟩
/-- What was put in and taken, in the law's list. -/
def Took (B : Nat) (v : Value) (nxt : Nat) (T : Nat → Int) (w : World) : Prop := Mine B v (zs T nxt) w ∧ ∃ g cap, v = .slice (some ⟨g, 0, none⟩) nxt cap ∧ B ≤ g
theorem zs_upd (T : Nat → Int) (n i : Nat) (x : Int) : (intC (zs T n)).set i (.int .i64 x) = intC (zs (updS T i x) n) := by
  apply List.ext_getElem
  · simp [intC, zs]
  · intro j h1 h2
    simp only [intC, zs, List.getElem_set, List.getElem_map, List.getElem_range]
    by_cases q : i = j
    · subst q; simp [updS_same]
    · rw [if_neg q, updS_other _ _ (Ne.symm q)]
section
variable {B : Nat} {v : Value} {nxt : Nat} {T : Nat → Int} {w w' : World}
theorem Took.cell {g cap : Nat} (h : Took B (.slice (some ⟨g, 0, none⟩) nxt cap) nxt T w) {i : Nat} (hi : i < nxt) : w.cell? ⟨g, i, none⟩ = some (.int .i64 (T i)) := by
  have h1 := h.1
  unfold Mine at h1
  rw [zs_length] at h1
  rw [h1.cellAt i (by omega)]
  simp [intC, zs, hi]
theorem Took.free {g cap : Nat} (h : Took B (.slice (some ⟨g, 0, none⟩) nxt cap) nxt T w) (i : Nat) : w.frozen? ⟨g, i, none⟩ = false := by
  have h1 := h.1
  unfold Mine at h1
  rw [zs_length] at h1
  exact h1.frozenAt i
theorem Took.put {g cap : Nat} (h : Took B (.slice (some ⟨g, 0, none⟩) nxt cap) nxt T w) (i : Nat) (x : Int) : Took B (.slice (some ⟨g, 0, none⟩) nxt cap) nxt (updS T i x) (w.setCell ⟨g, i, none⟩ (.int .i64 x)) := by
  refine ⟨?_, h.2⟩
  have h1 := h.1
  unfold Mine at h1 ⊢
  rw [zs_length] at h1 ⊢
  have := (h1.stored i (.int .i64 x)).1
  rw [zs_upd] at this
  exact this
theorem Took.gt {g cap : Nat} (h : Took B (.slice (some ⟨g, 0, none⟩) nxt cap) nxt T w) : B ≤ g ∧ g < w.heap.size := h.1.lt g rfl
theorem Took.but {X : Nat → Prop} (h : Took B v nxt T w) (hb : But X w w') (hX : ∀ k, B ≤ k → ¬ X k) : Took B v nxt T w' := by
  refine ⟨?_, h.2⟩
  obtain ⟨e, q⟩ := h.1
  refine ⟨e, ?_⟩
  rcases q with q | ⟨g, cap, cur, e1, e2, e3, e4⟩
  · exact .inl q
  · exact .inr ⟨g, cap, cur, e1, e2, (hb.block g (Array.getElem?_eq_some_iff.1 e3).1 (hX g e2)).trans e3, e4⟩
end
theorem Ld.far {w0 : World} {b n : Nat} {D : Dq} {w : World} (h : Ld w0 b D n w) {p : Addr} {v : Value} (hp : b < p.block) : Ld w0 b D n (w.setCell p v) :=
  ⟨h.v.but (X := fun j => j = p.block) ((But.refl _ _).set _ _ (.inl rfl)) (by omega), h.nice, h.old.set _ _ (.inr (by have := h.new; omega)), h.new⟩
theorem Took.grow {B : Nat} {v : Value} {nxt : Nat} {T : Nat → Int} {w : World} (h : Mine B v (zs T nxt ++ zs (fun _ => 0) 1) w) : Took B v (nxt + 1) (updS T nxt 0) w := by
  have e : zs T nxt ++ zs (fun _ => 0) 1 = zs (updS T nxt 0) (nxt + 1) := by
    rw [zs_succ (updS T nxt 0), updS_same]
    congr 1
    unfold zs
    refine List.map_congr_left fun i hi => ?_
    have : i < nxt := by simpa using hi
    rw [updS_other _ _ (by omega)]
  rw [e] at h
  refine ⟨h, ?_⟩
  have h1 := h
  unfold Mine at h1
  rw [zs_length] at h1
  rcases h1.2 with ⟨_, q⟩ | ⟨g, cap, cur, e1, e2, _⟩
  · omega
  · exact ⟨g, cap, e1, e2⟩
theorem afterT_1 {x : Int} {v nxt : Nat} {T : Nat → Int} (h : x = v) : afterT 1 x nxt T = updS T v 1 := by unfold afterT; rw [if_pos rfl, h, Int.toNat_natCast]
theorem afterT_4 {x : Int} {nxt : Nat} {T : Nat → Int} : afterT 4 x nxt T = updS T (nxt - 1) (-1) := by unfold afterT; rw [if_neg (by omega), if_pos rfl]
theorem afterT_o {how : Nat} {x : Int} {nxt : Nat} {T : Nat → Int} (h1 : how ≠ 1) (h4 : how ≠ 4) : afterT how x nxt T = T := by unfold afterT; rw [if_neg h1, if_neg h4]
theorem halt_ {p : Prop} (h : Hid p) : p := h.out
set_option maxRecDepth 100000 in
set_option maxHeartbeats 16000000 in
theorem run28_any {w0 : World} {b n : Nat} {r t : Nat} (A : Option Addr) (N cap : Nat) (K : Nat → Nat) (I X : Nat → Int) (w : World) (hN : N ≤ 300) (hr : 1 ≤ r) (h : Ld w0 b (newD r t) n w) (hn : n ≤ 1000) (hI : OpsIn w0 A N K I X) :
    Calls Try.prog 15 #[.pointer (some ⟨b, 0, none⟩), .slice A N cap] w fun e w' => ∃ v D nxt T, e = .returned (.tuple #[v, .bool true]) ∧ Took w.heap.size v nxt T w' ∧ Ld w0 b D (n + N) w' ∧ Inv D nxt T ∧ 1 ≤ nxt ∧ nxt ≤ N + 1 := by
  have hb := h.v.lt
  have HLD := Lib.hid h; have HI := Lib.hid hI; clear h hI
  go_enter Try.func15, Try.ntmps15
  go_wp2_with fail
  have hT : Took w.heap.size (.slice (some ⟨w.heap.size, 0, none⟩) 1 1) 1 (fun _ => 0) (w.alloc (.cells #[.int .i64 0] 3)) := by
    refine ⟨?_, w.heap.size, 1, rfl, Nat.le_refl _⟩
    unfold Mine
    have := World.ownsRow_lit (base := w.heap.size) (e := 3) (size := 1) w #[.int .i64 0] 1 (Nat.le_refl _) (by unfold maxLen; omega) rfl
    simpa [intC, zs] using this
  have HT := Lib.hid hT; clear hT
  go_loopw [6, 7, 8, 16] (fun v q m i wr => ∃ (j nxt : Nat) (D : Dq) (T : Nat → Int), j ≤ N ∧ i = .int .i64 j ∧ m = .int .i64 nxt ∧ q = .int .i64 (nxt - 1 : Nat) ∧ Took w.heap.size v nxt T wr ∧ Ld w0 b D (n + j) wr ∧ Inv D nxt T ∧ 1 ≤ nxt ∧ nxt ≤ j + 1) (fun _ _ _ i _ => N - (intOf i).toNat)
  case atStart => exact ⟨0, 1, _, _, Nat.zero_le _, rfl, rfl, rfl, HT.out, HLD.out.nob ((But.refl _ _).alloc _), Inv.new hr, Nat.le_refl _, Nat.le_refl _⟩
  case round =>
    obtain ⟨j, nxt, D, T, hj, rfl, rfl, rfl, hTk, hLd, hInv, hn1, hnx⟩ := hrel
    by_cases hlt : j < N
    · obtain ⟨bb, off, rfl, hbb, hc0, hc1, hc2⟩ := (HI.out.below hLd.below) j hlt
      have k0 : (0 : Int) ≤ (j : Int) := by omega
      have k1 : (j : Int) < (N : Int) := by omega
      obtain ⟨_, g, cap2, rfl, hBg⟩ := id hTk
      have hbx := Blk.new wr 29 #[.int .u64 (K j), .int .i64 (I j), .int .i64 (X j)]
      have hTk4 := hTk.but ((But.refl Nob wr).alloc (.cells #[.int .u64 (K j), .int .i64 (I j), .int .i64 (X j)] 29)) (fun _ _ q => q)
      have hLd4 := hLd.nob ((But.refl Nob wr).alloc (.cells #[.int .u64 (K j), .int .i64 (I j), .int .i64 (X j)] 29))
      have hB4 : wr.heap.size < (wr.alloc (.cells #[.int .u64 (K j), .int .i64 (I j), .int .i64 (X j)] 29)).heap.size := by simp
      have hwr := hTk.gt
      have HBX := Lib.hid hbx; have HTK := Lib.hid hTk4; have HL := Lib.hid hLd4; have HIN := Lib.hid hInv; have HB4 := Lib.hid hB4
      clear hTk hLd hInv hTk4 hLd4 hbx hB4 HT HLD
      have x0 := HBX.out.cell 0; have x1 := HBX.out.cell 1
      simp only [List.getElem?_toArray, List.getElem?_cons_zero, List.getElem?_cons_succ] at x0 x1
      rcases (by omega : K j % 8 = 0 ∨ K j % 8 = 1 ∨ K j % 8 = 2 ∨ 3 ≤ K j % 8) with hk | hk | hk | hk
      · have hm1 : (K j : Int).tmod 8 = 0 := by rw [Int.tmod_eq_emod_of_nonneg (by omega)]; omega
        have hm2 : (K j : Int) % 8 = 0 := by omega
        have P := push_ld nxt HL.out
        by_cases he : beginE D 0 = 0
        · rw [he] at P
          have P := Lib.hid P
          have hin := HIN.out.push he
          have HI2 := Lib.hid hin; have HN2 := Lib.hid hn1
          have nI : (nxt : Int) ≤ 301 := by omega
          clear he hin hn1
          go_wp2_with (first
            | (go_at_call 18; (with_reducible refine P.out.mono ?_); rintro e w5 ⟨rfl, h5, hG5⟩
               have HT5 := Lib.hid (HTK.out.but hG5 (fun k hk q => by have : k = b := q; omega)); have H5 := Lib.hid h5
               have hz5 := hG5.size
               clear h5 hG5)
            | (at_builtin; refine halt_ ?_))
          refine Lib.hid ?_
          refine app_ints rfl (.tmp 74) (.tmp 75) rfl w.heap.size _ (zs T nxt) rfl (HT5.out.1.alloc _) (some ⟨w5.heap.size, 0, none⟩) 1 1 (fun _ => 0) rfl (fun e => by cases e) (Nat.le_refl _) (fun i hi => ⟨w5.heap.size, 0, rfl, by simp, by rw [show i = 0 by omega]; exact (Blk.new w5 3 #[.int .i64 0]).cell 0⟩) (by omega) (by rw [zs_length]; omega) (by have := HT5.out.gt; rw [World.size_alloc]; omega) ?_
          intro v2 w2 h2
          have hgb : (w5.alloc (.cells #[.int .i64 0] 3)).grownBy w2 (some g) := h2.2.2
          have HM := Lib.hid h2.1; have HGB := Lib.hid hgb
          clear hgb
          clear h2
          go_wp2_with fail
          have hz2 : b < (w5.alloc (.cells #[.int .i64 0] 3)).heap.size := by have := H5.out.v.lt; simp; omega
          have h6 : Ld w0 b (beginR D 0 1 nxt) (n + j) w2 := by
            have h5' := H5.out.nob ((But.refl Nob _).alloc (.cells #[.int .i64 0] 3))
            have hX : But (fun k => k = g) (w5.alloc (.cells #[.int .i64 0] 3)) w2 := (But.refl _ _).grown HGB.out fun k e => by cases e; exact .inl rfl
            have hnw := h5'.new
            have hgt := HT5.out.gt
            exact ⟨h5'.v.but hX (by show ¬ b = g; omega), h5'.nice, h5'.old.step hX (fun k hk q => by have : k = g := q; omega), h5'.new⟩
          have H6 := Lib.hid h6; clear h6
          go_roundw
          case rel => exact ⟨j + 1, nxt + 1, _, _, hlt, by go_num, by go_num, by rw [Nat.add_sub_cancel], Took.grow HM.out, H6.out.mono (by omega), HI2.out, by omega, by omega⟩
          case measure => simp [intOf]; omega
        · have P := Lib.hid P
          have tb : (beginE D 0 == 0) = false := by simpa using he
          rw [beginR_no he] at P
          clear he
          go_wp2_with fail
          refine P.out.mono ?_
          rintro e w5 ⟨rfl, h5, hG5⟩
          have HT5 := Lib.hid (HTK.out.but hG5 (fun k hk q => by have : k = b := q; omega)); have H5 := Lib.hid h5
          clear h5 hG5 P
          go_wp2_with fail
          go_roundw
          case rel => exact ⟨j + 1, nxt, _, T, hlt, by go_num, rfl, rfl, HT5.out, H5.out.mono (by omega), HIN.out, hn1, by omega⟩
          case measure => simp [intOf]; omega
      · have hm1 : (K j : Int).tmod 8 = 1 := by rw [Int.tmod_eq_emod_of_nonneg (by omega)]; omega
        have hm2 : (K j : Int) % 8 = 1 := by omega
        have P := Lib.hid (pop_ld HL.out)
        go_wp2_with fail
        refine P.out.mono ?_
        rintro e w5 ⟨rfl, h5, hG5⟩
        have HT5 := Lib.hid (HTK.out.but hG5 (fun k hk q => by have : k = b := q; omega)); have H5 := Lib.hid h5; have HG5 := Lib.hid hG5
        clear h5 hG5 P
        go_wp2_with fail
        go_roundw
        case rel => exact ⟨j + 1, nxt, _, T, hlt, by go_num, rfl, rfl, HT5.out, H5.out.mono (by omega), HIN.out.pop, hn1, by omega⟩
        case measure => simp [intOf]; omega
      · have hm1 : (K j : Int).tmod 8 = 2 := by rw [Int.tmod_eq_emod_of_nonneg (by omega)]; omega
        have hm2 : (K j : Int) % 8 = 2 := by omega
        have P := Lib.hid (steal_ld (I j) HL.out)
        go_wp2_with fail
        refine P.out.mono ?_
        rintro e w5 ⟨rfl, h5, hG5⟩
        have HT5 := Lib.hid (HTK.out.but hG5 (fun k hk q => by have : k = b := q; omega)); have H5 := Lib.hid h5
        clear h5 hG5 P
        go_wp2_with fail
        go_roundw
        case rel => exact ⟨j + 1, nxt, _, T, hlt, by go_num, rfl, rfl, HT5.out, H5.out.mono (by omega), HIN.out.steal _, hn1, by omega⟩
        case measure => simp [intOf]; omega
      · obtain ⟨kd, hkd⟩ : ∃ kd, kd = K j % 8 := ⟨_, rfl⟩
        have hm1 : (K j : Int).tmod 8 = (kd : Int) := by rw [Int.tmod_eq_emod_of_nonneg (by omega)]; omega
        have hm2 : (K j : Int) % 8 = (kd : Int) := by omega
        have d0 : ((kd : Int) == 0) = false := by simp; omega
        have d1 : ((kd : Int) == 1) = false := by simp; omega
        have d2 : ((kd : Int) == 2) = false := by simp; omega
        have P := step_ld (I j) HL.out (by omega)
        obtain ⟨i1, i4, hin⟩ := HIN.out.stR HL.out.nice (I j)
        obtain ⟨D', hD'⟩ : ∃ D', D' = stR D (I j) := ⟨_, rfl⟩
        obtain ⟨how, hhow⟩ : ∃ h, h = stH D (I j) := ⟨_, rfl⟩
        obtain ⟨x, hx⟩ : ∃ x, x = stX D (I j) := ⟨_, rfl⟩
        rw [← hD', ← hhow, ← hx] at P hin
        rw [← hhow, ← hx] at i1
        rw [← hhow] at i4
        have P := Lib.hid P; have HI2 := Lib.hid hin
        have nI : (nxt : Int) ≤ 301 := by omega
        clear hD' hhow hx hin hkd hk
        by_cases q4 : how = 4
        · subst q4
          have h2n := i4 rfl
          have nI2 : (0 : Int) ≤ ((nxt - 1 : Nat) : Int) := by omega
          have nI3 : ((nxt - 1 : Nat) : Int) < (nxt : Int) := by omega
          clear i1 i4
          go_wp2_with fail
          refine P.out.mono ?_
          rintro e w5 ⟨rfl, h5, hG5⟩
          have HT5 := Lib.hid (HTK.out.but hG5 (fun k hk q => by have : k = b := q; omega)); have H5 := Lib.hid h5
          have cT : w5.cell? ⟨g, nxt - 1, none⟩ = some (.int .i64 (T (nxt - 1))) := HT5.out.cell (by omega)
          have fT := HT5.out.free (nxt - 1)
          have hg5 := HT5.out.gt
          clear h5 hG5 P
          go_wp2_with fail
          go_roundw
          case rel => exact ⟨j + 1, nxt, D', _, hlt, by go_num, rfl, rfl, (HT5.out.put (nxt - 1) (-1)).but ((But.refl Nob _).alloc _) (fun _ _ q => q), ((H5.out.far (p := ⟨g, nxt - 1, none⟩) (by show b < g; omega)).nob ((But.refl Nob _).alloc _)).mono (m := n + (j + 1)) (Nat.le_refl _), by have := HI2.out; rw [afterT_4] at this; exact this, hn1, by omega⟩
          case measure => simp [intOf]; omega
        · by_cases q1 : how = 1
          · subst q1
            obtain ⟨v, rfl, v1, v2, v3⟩ := i1 rfl
            have t1 : ((v : Int) < 1) = False := by simp; omega
            have t2 : decide (v < 1) = false := by simp; omega
            have t3 : decide (nxt ≤ v) = false := by simp; omega
            have t4 : ¬ nxt ≤ v := by omega
            have t5 : ¬ v < 1 := by omega
            have nI2 : (0 : Int) ≤ (v : Int) := by omega
            have nI3 : (v : Int) < (nxt : Int) := by omega
            have HV := Lib.hid v3
            clear i1 i4 q4 v3
            go_wp2_with fail
            refine P.out.mono ?_
            rintro e w5 ⟨rfl, h5, hG5⟩
            have HT5 := Lib.hid (HTK.out.but hG5 (fun k hk q => by have : k = b := q; omega)); have H5 := Lib.hid h5
            have cT : w5.cell? ⟨g, v, none⟩ = some (.int .i64 (T v)) := HT5.out.cell (by omega)
            rw [HV.out] at cT
            have fT := HT5.out.free v
            have hg5 := HT5.out.gt
            clear h5 hG5 P
            go_wp2_with fail
            go_roundw
            case rel => exact ⟨j + 1, nxt, D', _, hlt, by go_num, rfl, rfl, (HT5.out.put v 1).but ((But.refl Nob _).alloc _) (fun _ _ q => q), ((H5.out.far (p := ⟨g, v, none⟩) (by show b < g; omega)).nob ((But.refl Nob _).alloc _)).mono (m := n + (j + 1)) (Nat.le_refl _), by have := HI2.out; rw [afterT_1 rfl] at this; exact this, hn1, by omega⟩
            case measure => simp [intOf]; omega
          · have t1 : ((how : Int) == 1) = false := by simp; omega
            have t4 : ((how : Int) == 4) = false := by simp; omega
            have hin := HI2.out
            rw [afterT_o q1 q4] at hin
            have HI3 := Lib.hid hin
            clear i1 i4 q4 q1 hin
            go_wp2_with fail
            refine P.out.mono ?_
            rintro e w5 ⟨rfl, h5, hG5⟩
            have HT5 := Lib.hid (HTK.out.but hG5 (fun k hk q => by have : k = b := q; omega)); have H5 := Lib.hid h5
            clear h5 hG5 P
            go_wp2_with fail
            go_roundw
            case rel => exact ⟨j + 1, nxt, D', _, hlt, by go_num, rfl, rfl, HT5.out.but ((But.refl Nob _).alloc _) (fun _ _ q => q), (H5.out.nob ((But.refl Nob _).alloc _)).mono (m := n + (j + 1)) (Nat.le_refl _), HI3.out, hn1, by omega⟩
            case measure => simp [intOf]; omega
    · obtain rfl : j = N := by omega
      have HTK := Lib.hid hTk; have HL := Lib.hid hLd; have HIN := Lib.hid hInv
      clear hTk hLd hInv HT HLD
      go_wp2_with fail
      go_ret2
      exact ⟨_, D, nxt, T, rfl, HTK.out, HL.out, HIN.out, hn1, hnx⟩
end Go.Proofs.Ytfejimlfnelhhaa
