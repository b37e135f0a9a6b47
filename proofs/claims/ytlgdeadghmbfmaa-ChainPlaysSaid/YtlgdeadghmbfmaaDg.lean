/- Layer 7's do: each kind of call, on the chain and on the document's rows. -/
import Derived.Test.YtlgdeadghmbfmaaDf
import Derived.Deep.RegionHeld3
namespace Go.Proofs.Ytlgdeadghmbfmaa
open Go.RowKit

/-- The chain has gone on, the document's rows not yet. -/
structure Mid (b gl gn rb gL n m : Nat) (ls ls' : Nat → List Nat) (w : World) : Prop where
  ch : Ch b gl gn n m ls' w
  dr : DrV (TN b gl gn rb gL) rb gL n m ls w
  o1 : ¬ Own3 b gl gn rb
  o2 : ¬ Own3 b gl gn gL
section
variable {b gl gn rb gL n m : Nat} {ls ls' : Nat → List Nat} {w w' : World}
theorem Mid.nob (h : Mid b gl gn rb gL n m ls ls' w) (hb : But Nob w w') : Mid b gl gn rb gL n m ls ls' w' := ⟨h.ch.but hb fun _ _ q => q.elim, h.dr.nob hb, h.o1, h.o2⟩
theorem Mid.lt (h : Mid b gl gn rb gL n m ls ls' w) {k : Nat} (hk : TN b gl gn rb gL k) : k < w.heap.size := by
  rcases hk with hk | rfl | rfl
  · exact h.ch.lt hk
  · exact h.dr.own.lt
  · obtain ⟨V, S, a, c, d, e⟩ := h.dr.rows; exact c.lt
theorem Two.mid (h : Two b gl gn rb gL n m ls w) : Mid b gl gn rb gL n m ls ls w := ⟨h.ch, h.dr, h.o1, h.o2⟩
theorem Two.code (h : Two b gl gn rb gL n m ls w) (hC : Ch b gl gn n m ls' w') (hB : But (Own3 b gl gn) w w') : Mid b gl gn rb gL n m ls ls' w' ∧ But (TN b gl gn rb gL) w w' :=
  ⟨⟨hC, h.dr.but hB (fun _ q => .inl q) h.o1 h.o2, h.o1, h.o2⟩, hB.mono fun _ _ q => .inl q⟩
theorem Mid.doc (h : Mid b gl gn rb gL n m ls ls' w) (hD : DrV (TN b gl gn rb gL) rb gL n m ls' w') (hB : But (fun k => k = gL) w w') : Two b gl gn rb gL n m ls' w' ∧ But (TN b gl gn rb gL) w w' :=
  ⟨⟨h.ch.but hB (fun _ hk e => h.o2 (e ▸ hk)), hD, h.o1, h.o2⟩, hB.mono fun _ _ q => .inr (.inr q)⟩
/-- A call on both answers r. -/
def Code2 (b gl gn rb gL n m : Nat) (ls ls' : Nat → List Nat) (f : Nat) (args : Array Value) (r : Value) : Prop :=
  ∀ W, Two b gl gn rb gL n m ls W → Calls Try.prog f args W fun e W' => e = .returned r ∧ Mid b gl gn rb gL n m ls ls' W' ∧ But (TN b gl gn rb gL) W W'
def Doc2 (b gl gn rb gL n m : Nat) (ls ls' : Nat → List Nat) (f : Nat) (args : Array Value) (r : Value) : Prop :=
  ∀ W, Mid b gl gn rb gL n m ls ls' W → Calls Try.prog f args W fun e W' => e = .returned r ∧ Two b gl gn rb gL n m ls' W' ∧ But (TN b gl gn rb gL) W W'
theorem inB_at {i : Int} {k : Nat} (h : ¬ inB i k = false) : ∃ j : Nat, i = j ∧ j < k := by
  have h3 : 0 ≤ i ∧ i < k := by simpa [inB] using h
  exact ⟨i.toNat, by omega, by omega⟩
theorem push2 (I X : Int) (h : Two b gl gn rb gL n m ls w) : ∃ (r : Int) (ls' : Nat → List Nat),
    Code2 b gl gn rb gL n m ls ls' 46 #[.pointer (some ⟨b, 0, none⟩), .int .i64 I, .int .i64 X] (.int .i64 r) ∧
    Doc2 b gl gn rb gL n m ls ls' 84 #[.pointer (some ⟨rb, 0, none⟩), .int .i64 I, .int .i64 X] (.int .i64 r) := by
  have hlen : ∀ a, a < m → (ls a).length ≤ 4096 := fun a ha => h.len ha
  by_cases ho : inB I m = false ∨ inB X n = false
  · exact ⟨1, ls, fun W hW => (push_out I X hW.ch ho).mono fun e W' ⟨he, hw⟩ => ⟨he, hw ▸ hW.mid, hw ▸ But.refl _ _⟩, fun W hW => (dpush_out I X hW.dr ho).mono fun e W' ⟨he, hw⟩ => ⟨he, hw ▸ ⟨hW.ch, hW.dr, hW.o1, hW.o2⟩, hw ▸ But.refl _ _⟩⟩
  · obtain ⟨k, rfl, hk⟩ := inB_at fun q => ho (.inl q)
    obtain ⟨x, rfl, hx⟩ := inB_at fun q => ho (.inr q)
    by_cases hin : ∃ j, j < m ∧ x ∈ ls j
    · obtain ⟨j, hj, hm⟩ := hin
      exact ⟨9, ls, fun W hW => (push_in k x j hW.ch hk hj hm).mono fun e W' ⟨he, hw⟩ => ⟨he, hw ▸ hW.mid, hw ▸ But.refl _ _⟩, fun W hW => (dpush_in k x j hW.dr hk hx hlen hj hm).mono fun e W' ⟨he, hw⟩ => ⟨he, hw ▸ ⟨hW.ch, hW.dr, hW.o1, hW.o2⟩, hw ▸ But.refl _ _⟩⟩
    · have hf : ∀ a, a < m → x ∉ ls a := fun a ha q => hin ⟨a, ha, q⟩
      exact ⟨0, updL ls k (ls k ++ [x]), fun W hW => (push_ok k x hW.ch hk hx hf).mono fun e W' ⟨he, hC, hB⟩ => ⟨he, (hW.code hC hB).1, (hW.code hC hB).2⟩,
        fun W hW => (dpush_ok k x hW.dr (fun q hq => hW.lt hq) hk hx hlen hf).mono fun e W' ⟨he, hD, hB⟩ => ⟨he, (hW.doc hD hB).1, (hW.doc hD hB).2⟩⟩
theorem dremove_at (a c : Nat) (hone : ∀ j k x, j < m → k < m → x ∈ ls j → x ∈ ls k → j = k) (hnd : (ls a).Nodup) (hlen : ∀ a, a < m → (ls a).length ≤ 4096) (ha : a < m) (hc : c < (ls a).length) (hx : (ls a)[c] < n) :
    Doc2 b gl gn rb gL n m ls (updL ls a ((ls a).take c ++ (ls a).drop (c + 1))) 83 #[.pointer (some ⟨rb, 0, none⟩), .int .i64 ((ls a)[c] : Nat)] (.tuple #[.int .i64 a, .int .i64 0]) := by
  intro W hW
  have hmem : (ls a)[c] ∈ ls a := List.getElem_mem hc
  refine (dremove_ok _ a hW.dr (fun q hq => hW.lt hq) hx hlen ha hmem).mono ?_
  rintro e W' ⟨a', c', ha', hc', hv, rfl, hD, hB⟩
  rw [List.getElem?_eq_getElem hc'] at hv
  have hv' : (ls a')[c'] = (ls a)[c] := Int.ofNat.inj hv
  obtain rfl : a' = a := hone _ _ _ ha' ha (by rw [← hv']; exact List.getElem_mem hc') hmem
  obtain rfl := nodup_at hnd hc' hc hv'
  rw [List.eraseIdx_eq_take_drop_succ] at hD
  exact ⟨rfl, (hW.doc hD hB).1, (hW.doc hD hB).2⟩
theorem remove2 (X : Int) (h : Two b gl gn rb gL n m ls w) : ∃ (l r : Int) (ls' : Nat → List Nat),
    Code2 b gl gn rb gL n m ls ls' 48 #[.pointer (some ⟨b, 0, none⟩), .int .i64 X] (.tuple #[.int .i64 l, .int .i64 r]) ∧
    Doc2 b gl gn rb gL n m ls ls' 83 #[.pointer (some ⟨rb, 0, none⟩), .int .i64 X] (.tuple #[.int .i64 l, .int .i64 r]) := by
  have hlen : ∀ a, a < m → (ls a).length ≤ 4096 := fun a ha => h.len ha
  by_cases ho : inB X n = false
  · exact ⟨0, 1, ls, fun W hW => (remove_out X hW.ch ho).mono fun e W' ⟨he, hw⟩ => ⟨he, hw ▸ hW.mid, hw ▸ But.refl _ _⟩, fun W hW => (dremove_out X hW.dr ho).mono fun e W' ⟨he, hw⟩ => ⟨he, hw ▸ ⟨hW.ch, hW.dr, hW.o1, hW.o2⟩, hw ▸ But.refl _ _⟩⟩
  · obtain ⟨x, rfl, hx⟩ := inB_at ho
    by_cases hin : ∃ j, j < m ∧ x ∈ ls j
    · obtain ⟨j, hj, hm⟩ := hin
      obtain ⟨c, hc, rfl⟩ := List.mem_iff_getElem.1 hm
      exact ⟨j, 0, _, fun W hW => (remove_ok j _ _ _ hW.ch hj (split_at hc)).mono fun e W' ⟨he, hC, hB⟩ => ⟨he, (hW.code hC hB).1, (hW.code hC hB).2⟩,
        dremove_at j c (fun _ _ _ => h.ch.one) (h.ch.nodup hj) hlen hj hc hx⟩
    · have hf : ∀ a, a < m → x ∉ ls a := fun a ha q => hin ⟨a, ha, q⟩
      exact ⟨0, 3, ls, fun W hW => (remove_free x hW.ch hx hf).mono fun e W' ⟨he, hB⟩ => ⟨he, hW.mid.nob hB, hB.nob⟩,
        fun W hW => (dremove_free x hW.dr hx hlen hf).mono fun e W' ⟨he, hw⟩ => ⟨he, hw ▸ ⟨hW.ch, hW.dr, hW.o1, hW.o2⟩, hw ▸ But.refl _ _⟩⟩
/-- What do gives. -/
def Do7 (b gl gn rb gL n m : Nat) (w : World) (e : Ending) (w' : World) : Prop :=
  e = .returned (.bool true) ∧ ∃ ls', Two b gl gn rb gL n m ls' w' ∧ But (TN b gl gn rb gL) w w'
set_option maxRecDepth 100000 in
set_option maxHeartbeats 4000000 in
theorem do7_rem (K : Nat) (I X : Int) (h : Two b gl gn rb gL n m ls w) (hk : K % 5 = 4) :
    Calls Try.prog 43 #[.pointer (some ⟨b, 0, none⟩), .pointer (some ⟨rb, 0, none⟩), .agg #[.int .u64 K, .int .i64 I, .int .i64 X]] w (Do7 b gl gn rb gL n m w) := by
  have hm1 : (K : Int).tmod 5 = 4 := by rw [Int.tmod_eq_emod_of_nonneg (by omega)]; omega
  have hm2 : (K : Int) % 5 = 4 := by omega
  have hG : But Nob w (w.alloc (.cells #[.int .u64 K, .int .i64 I, .int .i64 X] 75)) := (But.refl _ _).alloc _
  have hA := h.nob hG
  have hx := Blk.new w 75 #[.int .u64 K, .int .i64 I, .int .i64 X]
  have x0 := hx.cell 0; have x1 := hx.cell 1; have x2 := hx.cell 2
  simp only [List.getElem?_toArray, List.getElem?_cons_zero, List.getElem?_cons_succ] at x0 x1 x2
  obtain ⟨l, r, ls', P1, P2⟩ := remove2 X h
  have tl : (l == l) = true := by simp
  have tr : (r == r) = true := by simp
  have hlt : Hid (∀ k, TN b gl gn rb gL k → k < w.heap.size) := fun k hk => h.lt hk
  have P1 := Lib.hid P1; have P2 := Lib.hid P2; have HX := Lib.hid hx; have HA := Lib.hid hA; have HG := Lib.hid hG
  clear h hG hA hx hk
  go_enter Try.func43, Try.ntmps43
  go_wp2_with fail
  refine (P1.out _ HA.out).mono ?_
  rintro e w1 ⟨rfl, h1, hB1⟩
  have hx1 := HX.out.but hB1 (fun q => by have := hlt.out _ q; omega)
  have y2 := hx1.cell 2
  simp only [List.getElem?_toArray, List.getElem?_cons_zero, List.getElem?_cons_succ] at y2
  have H1 := Lib.hid h1; have HB1 := Lib.hid hB1
  clear h1 hB1 hx1 x0 x1 x2
  go_wp2_with fail
  refine (P2.out _ H1.out).mono ?_
  rintro e w2 ⟨rfl, h2, hB2⟩
  have H2 := Lib.hid h2; have HB2 := Lib.hid hB2
  clear h2 hB2
  go_wp2_with fail
  go_ret
  exact ⟨rfl, ls', H2.out, ((HG.out.nob.trans HB1.out).trans HB2.out)⟩
set_option maxRecDepth 100000 in
set_option maxHeartbeats 4000000 in
theorem do7_push (K : Nat) (I X : Int) (h : Two b gl gn rb gL n m ls w) (hk : K % 5 ≠ 3 ∧ K % 5 ≠ 4) :
    Calls Try.prog 43 #[.pointer (some ⟨b, 0, none⟩), .pointer (some ⟨rb, 0, none⟩), .agg #[.int .u64 K, .int .i64 I, .int .i64 X]] w (Do7 b gl gn rb gL n m w) := by
  obtain ⟨kd, hkd⟩ : ∃ kd, kd = K % 5 := ⟨_, rfl⟩
  have hm1 : (K : Int).tmod 5 = (kd : Int) := by rw [Int.tmod_eq_emod_of_nonneg (by omega)]; omega
  have hm2 : (K : Int) % 5 = (kd : Int) := by omega
  have d0 : ((kd : Int) == 3) = false := by simp; omega
  have d1 : ((kd : Int) == 4) = false := by simp; omega
  have hG : But Nob w (w.alloc (.cells #[.int .u64 K, .int .i64 I, .int .i64 X] 75)) := (But.refl _ _).alloc _
  have hA := h.nob hG
  have hx := Blk.new w 75 #[.int .u64 K, .int .i64 I, .int .i64 X]
  have x0 := hx.cell 0; have x1 := hx.cell 1; have x2 := hx.cell 2
  simp only [List.getElem?_toArray, List.getElem?_cons_zero, List.getElem?_cons_succ] at x0 x1 x2
  obtain ⟨r, ls', P1, P2⟩ := push2 I X h
  have tr : (r == r) = true := by simp
  have hlt : Hid (∀ k, TN b gl gn rb gL k → k < w.heap.size) := fun k hk => h.lt hk
  have P1 := Lib.hid P1; have P2 := Lib.hid P2; have HX := Lib.hid hx; have HA := Lib.hid hA; have HG := Lib.hid hG
  clear h hG hA hx hk hkd
  go_enter Try.func43, Try.ntmps43
  go_wp2_with fail
  generalize w.alloc (.cells #[.int .u64 K, .int .i64 I, .int .i64 X] 75) = w4 at *
  go_region_held3 (fun W => W.cell? ⟨w.heap.size, 1, none⟩ = some (.int .i64 I) ∧ W.cell? ⟨w.heap.size, 2, none⟩ = some (.int .i64 X)) (first | go_keep | exact ⟨y1, y2⟩ | exact ⟨z1, z2⟩)
    (first
      | (go_at_call 46; refine (P1.out _ (HA.out.nob (But.refl _ _).drew)).mono ?_; rintro e w1 ⟨rfl, h1, hB1⟩; have hx1 := (show Blk w4.drew w.heap.size 75 _ from HX.out).but hB1 (fun q => by have := hlt.out _ q; omega); have y1 := hx1.cell 1; have y2 := hx1.cell 2; simp only [List.getElem?_toArray, List.getElem?_cons_zero, List.getElem?_cons_succ] at y1 y2; have HX1 := Lib.hid hx1; have H1 := Lib.hid h1; have HB1 := Lib.hid hB1; clear h1 hB1 hx1)
      | (go_at_call 84; refine (P2.out _ H1.out).mono ?_; rintro e w2 ⟨rfl, h2, hB2⟩; have hx2 := HX1.out.but hB2 (fun q => by have := hlt.out _ q; omega); have z1 := hx2.cell 1; have z2 := hx2.cell 2; simp only [List.getElem?_toArray, List.getElem?_cons_zero, List.getElem?_cons_succ] at z1 z2; have H2 := Lib.hid h2; have HB2 := Lib.hid hB2; clear h2 hB2 hx2))
  go_wp2_with fail
  go_ret
  exact ⟨rfl, ls', H2.out, ((HG.out.nob.drew.trans HB1.out).trans HB2.out)⟩
theorem pop_lone (I : Int) (h : Ch b gl gn n m ls w) (hl : ∀ k : Nat, I = k → k < m → ls k = []) :
    Calls Try.prog 49 #[.pointer (some ⟨b, 0, none⟩), .int .i64 I] w fun e w' => e = .returned (.tuple #[.int .i64 0, .bool false]) ∧ w = w' := by
  by_cases ho : inB I m = false
  · exact pop_none I (firstc_out I h ho)
  · obtain ⟨k, rfl, hk⟩ := inB_at ho
    have hf := firstc_ok k h hk
    rw [hl k rfl hk] at hf
    exact pop_none k hf
theorem row_lone {N : Nat → Prop} (I : Int) (h : DrV N rb gL n m ls w) (hl : ∀ k : Nat, I = k → k < m → ls k = []) :
    Calls Try.prog 81 #[.pointer (some ⟨rb, 0, none⟩), .int .i64 I] w fun e w' => (∃ A cap, e = .returned (.slice A 0 cap)) ∧ w = w' := by
  by_cases ho : inB I m = false
  · exact (drow_out I h ho).mono fun e W' ⟨he, hw⟩ => ⟨⟨none, 0, he⟩, hw⟩
  · obtain ⟨k, rfl, hk⟩ := inB_at ho
    refine (drow_in k h hk).mono ?_
    rintro e W' ⟨v, rfl, ⟨A, cap, rfl, _⟩, hw⟩
    rw [hl k rfl hk]
    exact ⟨⟨A, cap, rfl⟩, hw⟩
set_option maxRecDepth 100000 in
set_option maxHeartbeats 4000000 in
theorem do7_pop0 (K : Nat) (I X : Int) (h : Two b gl gn rb gL n m ls w) (hk : K % 5 = 3) (hl : ∀ k : Nat, I = k → k < m → ls k = []) :
    Calls Try.prog 43 #[.pointer (some ⟨b, 0, none⟩), .pointer (some ⟨rb, 0, none⟩), .agg #[.int .u64 K, .int .i64 I, .int .i64 X]] w (Do7 b gl gn rb gL n m w) := by
  have hm1 : (K : Int).tmod 5 = 3 := by rw [Int.tmod_eq_emod_of_nonneg (by omega)]; omega
  have hm2 : (K : Int) % 5 = 3 := by omega
  have hG : But Nob w (w.alloc (.cells #[.int .u64 K, .int .i64 I, .int .i64 X] 75)) := (But.refl _ _).alloc _
  have hA := h.nob hG
  have hx := Blk.new w 75 #[.int .u64 K, .int .i64 I, .int .i64 X]
  have x0 := hx.cell 0; have x1 := hx.cell 1; have x2 := hx.cell 2
  simp only [List.getElem?_toArray, List.getElem?_cons_zero, List.getElem?_cons_succ] at x0 x1 x2
  have P1 := Lib.hid (pop_lone I hA.ch hl); have P2 := Lib.hid (row_lone I hA.dr hl); have HA := Lib.hid hA; have HG := Lib.hid hG
  clear h hG hA hx hk hl
  go_enter Try.func43, Try.ntmps43
  go_wp2_with (first
    | (go_at_call 49; (with_reducible refine P1.out.mono ?_); rintro e wq ⟨rfl, rfl⟩)
    | (go_at_call 81; (with_reducible refine P2.out.mono ?_); rintro e wq ⟨⟨A, cap, rfl⟩, rfl⟩))
  go_ret
  exact ⟨rfl, ls, HA.out, HG.out.nob⟩
set_option maxRecDepth 100000 in
set_option maxHeartbeats 4000000 in
theorem do7_pop (K : Nat) (k x : Nat) (ws : List Nat) (X : Int) (h : Two b gl gn rb gL n m ls w) (hk : K % 5 = 3) (hkm : k < m) (hl : ls k = x :: ws) :
    Calls Try.prog 43 #[.pointer (some ⟨b, 0, none⟩), .pointer (some ⟨rb, 0, none⟩), .agg #[.int .u64 K, .int .i64 k, .int .i64 X]] w (Do7 b gl gn rb gL n m w) := by
  have hm1 : (K : Int).tmod 5 = 3 := by rw [Int.tmod_eq_emod_of_nonneg (by omega)]; omega
  have hm2 : (K : Int) % 5 = 3 := by omega
  have hG : But Nob w (w.alloc (.cells #[.int .u64 K, .int .i64 k, .int .i64 X] 75)) := (But.refl _ _).alloc _
  have hA := h.nob hG
  have hx := Blk.new w 75 #[.int .u64 K, .int .i64 k, .int .i64 X]
  have x0 := hx.cell 0; have x1 := hx.cell 1; have x2 := hx.cell 2
  simp only [List.getElem?_toArray, List.getElem?_cons_zero, List.getElem?_cons_succ] at x0 x1 x2
  have P1 := pop_ok k x ws hA.ch hkm hl
  have hc : 0 < (ls k).length := by rw [hl]; simp
  have hx0 : (ls k)[0] = x := by simp only [hl, List.getElem_cons_zero]
  have hxm : x ∈ ls k := by rw [hl]; simp
  have P3 := dremove_at (n := n) (rb := rb) (gL := gL) (b := b) (gl := gl) (gn := gn) k 0 (fun _ _ _ => h.ch.one) (h.ch.nodup hkm) (fun a ha => h.len ha) hkm hc (by rw [hx0]; exact h.ch.node hkm hxm)
  rw [hx0, show (ls k).take 0 ++ (ls k).drop (0 + 1) = ws by rw [hl]; rfl] at P3
  have HK : Hid (∀ W, DrV (TN b gl gn rb gL) rb gL n m ls W → Calls Try.prog 81 #[.pointer (some ⟨rb, 0, none⟩), .int .i64 k] W fun e w' => (∃ bb off cap L, e = .returned (.slice (some ⟨bb, off, none⟩) L cap) ∧ 0 < L ∧ W.cell? ⟨bb, off, none⟩ = some (.int .i64 x)) ∧ W = w') := fun W hW => by
    refine (drow_in k hW hkm).mono ?_
    rintro e W' ⟨v, rfl, ⟨A, cap, rfl, _, _, q, _⟩, hw⟩
    obtain ⟨bb, off, rfl, _, cx⟩ := q 0 hc
    rw [Nat.add_zero] at cx
    dsimp only at cx
    rw [List.getElem?_eq_getElem hc, Option.getD_some, hx0] at cx
    exact ⟨⟨bb, off, cap, _, rfl, hc, cx⟩, hw⟩
  have hlt : Hid (∀ k, TN b gl gn rb gL k → k < w.heap.size) := fun k hk => h.lt hk
  have tx : ((x : Int) == (x : Int)) = true := by simp
  have P1 := Lib.hid P1; have P3 := Lib.hid P3; have HX := Lib.hid hx; have HA := Lib.hid hA; have HG := Lib.hid hG
  clear h hG hA hx hk hl hc hx0 hxm hkm
  go_enter Try.func43, Try.ntmps43
  go_wp2_with fail
  refine P1.out.mono ?_
  rintro e w1 ⟨rfl, hC, hB⟩
  obtain ⟨h1, hB1⟩ := HA.out.code hC hB
  have hx1 := HX.out.but hB1 (fun q => by have := hlt.out _ q; omega)
  have y1 := hx1.cell 1
  simp only [List.getElem?_toArray, List.getElem?_cons_zero, List.getElem?_cons_succ] at y1
  have P2 := Lib.hid (HK.out _ h1.dr)
  have H1 := Lib.hid h1; have HB1 := Lib.hid hB1
  clear h1 hB1 hx1 x0 x1 x2 hC hB
  go_wp2_with fail
  refine P2.out.mono ?_
  rintro e wq ⟨⟨bb, off, cap, L, rfl, hL, cx⟩, rfl⟩
  have t0 : ((L : Int) == 0) = false := by simp; omega
  have t1 : (0 : Int) < (L : Int) := by omega
  clear hL
  go_wp2_with fail
  refine (P3.out _ H1.out).mono ?_
  rintro e w2 ⟨rfl, h2, hB2⟩
  have H2 := Lib.hid h2; have HB2 := Lib.hid hB2
  clear h2 hB2
  go_wp2_with fail
  go_ret
  exact ⟨rfl, _, H2.out, ((HG.out.nob.trans HB1.out).trans HB2.out)⟩
theorem do7_any (K : Nat) (I X : Int) (h : Two b gl gn rb gL n m ls w) :
    Calls Try.prog 43 #[.pointer (some ⟨b, 0, none⟩), .pointer (some ⟨rb, 0, none⟩), .agg #[.int .u64 K, .int .i64 I, .int .i64 X]] w (Do7 b gl gn rb gL n m w) := by
  by_cases h4 : K % 5 = 4
  · exact do7_rem K I X h h4
  · by_cases h3 : K % 5 = 3
    · by_cases hl : ∀ k : Nat, I = k → k < m → ls k = []
      · exact do7_pop0 K I X h h3 hl
      · have : ∃ k : Nat, I = k ∧ k < m ∧ ls k ≠ [] := Classical.byContradiction fun q => hl fun k e hk => Classical.byContradiction fun r => q ⟨k, e, hk, r⟩
        obtain ⟨k, rfl, hk, hne⟩ := this
        cases hl : ls k with
        | nil => exact absurd hl hne
        | cons x ws => exact do7_pop K k x ws X h h3 hk hl
    · exact do7_push K I X h ⟨h3, h4⟩
end
end Go.Proofs.Ytlgdeadghmbfmaa
