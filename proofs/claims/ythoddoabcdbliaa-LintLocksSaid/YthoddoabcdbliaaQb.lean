/- The document's Held (layer 26), in a fine program. -/
import Derived.Test.YthoddoabcdbliaaQa
import Derived.Test.YthoddoabcdbliaaPd
namespace Go.Proofs.Ythoddoabcdbliaa
open Go.RowKit

structure StH (w : World) (G1 G2 : Nat) (prio : Int) (A : Option Addr) (N cap : Nat) (W O : Nat → Bool) (wr : World) : Prop where
  p : Blk wr w.heap.size 24 #[.int .i64 prio, .slice A N cap]
  g1 : Blk wr G1 4 (boolC W N)
  g2 : Blk wr G2 4 (boolC O N)
  b : Below w.heap.size w wr
section
variable {w wr wx : World} {G1 G2 N cap : Nat} {prio : Int} {A : Option Addr} {W O : Nat → Bool}
theorem StH.below (h : StH w G1 G2 prio A N cap W O wr) (hb : Below wr.heap.size wr wx) : StH w G1 G2 prio A N cap W O wx :=
  ⟨h.p.below hb h.p.lt, h.g1.below hb h.g1.lt, h.g2.below hb h.g2.lt, h.b.trans (hb.mono h.b.size)⟩
theorem StH.set1 (h : StH w G1 G2 prio A N cap W O wr) (hG : w.heap.size < G1) (hne : G1 < G2) {k : Nat} (hk : k < N) (b : Bool) {T : Nat → Bool} (hT : ∀ i, i < N → (if i = k then b else W i) = T i) : StH w G1 G2 prio A N cap T O (wr.setCell ⟨G1, k, none⟩ (.bool b)) := by
  have hb : But (fun j => j = G1) wr (wr.setCell ⟨G1, k, none⟩ (.bool b)) := (But.refl (fun j => j = G1) wr).set _ _ (.inl rfl)
  refine ⟨h.p.but hb (by omega), ?_, h.g2.but hb (by omega), h.b.trans (hb.below h.b.size fun j _ e => by rw [e]; omega)⟩
  have := h.g1.set_ k (.bool b)
  rw [boolC_set _ b hk, boolC_congr hT] at this
  exact this
theorem StH.set2 (h : StH w G1 G2 prio A N cap W O wr) (hG : w.heap.size < G1) (hne : G1 < G2) {k : Nat} (hk : k < N) (b : Bool) {T : Nat → Bool} (hT : ∀ i, i < N → (if i = k then b else O i) = T i) : StH w G1 G2 prio A N cap W T (wr.setCell ⟨G2, k, none⟩ (.bool b)) := by
  have hb : But (fun j => j = G2) wr (wr.setCell ⟨G2, k, none⟩ (.bool b)) := (But.refl (fun j => j = G2) wr).set _ _ (.inl rfl)
  refine ⟨h.p.but hb (by omega), h.g1.but hb (by omega), ?_, h.b.trans (hb.below h.b.size fun j _ e => by rw [e]; omega)⟩
  have := h.g2.set_ k (.bool b)
  rw [boolC_set _ b hk, boolC_congr hT] at this
  exact this
end
def mesH (N G1 G2 : Nat) (c : Value) (W : World) : Nat := 2 * (2 * N - (cnt (fwB W G1) N + cnt (fwB W G2) N)) + (match c with | .bool true => 1 | _ => 0)
theorem cnt_fwB {W : World} {G : Nat} {S : Nat → Bool} {N : Nat} (h : Blk W G 4 (boolC S N)) : cnt (fwB W G) N = cnt S N := cnt_congr N fun i hi => by
  unfold fwB
  rw [h.cell i, boolC_get _ hi]
theorem mesH_eq {w wr : World} {G1 G2 N cap : Nat} {prio : Int} {A : Option Addr} {W O : Nat → Bool} (h : StH w G1 G2 prio A N cap W O wr) (b : Bool) : mesH N G1 G2 (.bool b) wr = 2 * (2 * N - (cnt W N + cnt O N)) + (if b then 1 else 0) := by
  unfold mesH; rw [cnt_fwB h.g1, cnt_fwB h.g2]; cases b <;> rfl
theorem cnt_upd (S : Nat → Bool) {c N : Nat} (hc : c < N) (b : Bool) (hb : S c = true → b = true) : cnt (fun i => if i = c then b else S i) N = cnt S N + (if S c = false ∧ b = true then 1 else 0) := by
  cases e : S c with
  | true =>
    rw [if_neg (by simp), hb e]
    exact cnt_congr N fun n _ => by
      by_cases q : n = c
      · subst q; simp [e]
      · simp [q]
  | false =>
    cases b with
    | true => rw [if_pos (by simp), cnt_put' S hc e]
    | false =>
      rw [if_neg (by simp)]
      exact cnt_congr N fun n _ => by
        by_cases q : n = c
        · subst q; simp [e]
        · simp [q]
set_option maxRecDepth 100000 in
set_option maxHeartbeats 16000000 in
theorem Held_any (prio locks : Int) (A : Option Addr) (l : List I4) (cap lock : Nat) (w : World) (hI : InsIn w A l) (hf : Fine prio l) (h16 : lock < 16) :
    Calls Try.prog 27 #[.agg #[.int .i64 prio, .slice A l.length cap], .int .i64 lock, .int .i64 locks] w fun e w' => ∃ (W O : Nat → Bool) (G1 G3 : Nat), e = .returned (.tuple #[.slice (some ⟨G1, 0, none⟩) l.length l.length, .slice (some ⟨G3, 0, none⟩) l.length l.length]) ∧
      (∀ k, W k = true ↔ Had l lock locks true k) ∧ (∀ k, O k = true ↔ Had l lock locks false k) ∧ Blk w' G1 4 (boolC W l.length) ∧ Blk w' G3 4 (boolC (fun i => W i && !O i) l.length) ∧ w.heap.size ≤ G1 ∧ w.heap.size ≤ G3 ∧ Below w.heap.size w w' := by
  have hlen := hf.len
  have hB1 : Below w.heap.size w (w.alloc (.cells #[.int .i64 prio, .slice A l.length cap] 24)) := (Below.refl _ _).alloc (Nat.le_refl _) _
  have HGO : Hid (∀ (W : World) (a : Nat) (x : I4) (t : Nat), Below w.heap.size w W → l[a]? = some x → Calls Try.prog 8 #[.agg #[.int .i64 prio, .slice A l.length cap], .int .i64 a, .int .i64 t] W (GotB W.heap.size (.bool (decide ((t : Int) ∈ nextP x a))) W)) := fun W a x t h hx => goes_in x prio A l cap a t W (hI.below h) hx hlen.2
  have HDN : Hid (∀ W O, HInv l lock locks W O → (∀ a c, a < l.length → c < l.length → ¬ HOpn l lock locks W O a c) → (∀ k, W k = true ↔ Had l lock locks true k) ∧ (∀ k, O k = true ↔ Had l lock locks false k)) := fun W O h hc => h.done hf (fun k x hx => (hI k x hx).1.n) hc
  have hb := Blk.new w 24 #[.int .i64 prio, .slice A l.length cap]
  have HB := Lib.hid hb; have HB1 := Lib.hid hB1; have HI := Lib.hid hI
  clear hI hf hb hB1
  obtain ⟨N, hN⟩ : ∃ N, l.length = N := ⟨_, rfl⟩
  have HN := Lib.hid hN
  rw [hN] at hlen HGO HDN HB HB1 ⊢
  clear hN
  have hmk := run_make_row' (P := Try.prog) 29 4 (.bool false) 1 Try.underlying29 infoBool rfl .i64 .i64 N (by omega) (by omega)
  rw [boolC_made] at hmk
  have x0 := HB.out.cell 0; have x1 := HB.out.cell 1
  simp only [List.getElem?_toArray, List.getElem?_cons_zero, List.getElem?_cons_succ] at x0 x1
  have hG0 : w.heap.size < w.heap.size + 1 := by omega
  have hG1 : w.heap.size + 1 < w.heap.size + 1 + 1 := by omega
  have hsz : (w.alloc (.cells #[.int .i64 prio, .slice A N cap] 24)).heap.size = w.heap.size + 1 := by simp
  have hS0 : StH w (w.heap.size + 1) (w.heap.size + 1 + 1) prio A N cap (fun _ => false) (fun _ => false) (((w.alloc (.cells #[.int .i64 prio, .slice A N cap] 24)).alloc (.cells (boolC (fun _ => false) N) 4)).alloc (.cells (boolC (fun _ => false) N) 4)) := by
    have h1 := Blk.new (w.alloc (.cells #[.int .i64 prio, .slice A N cap] 24)) 4 (boolC (fun _ => false) N)
    have h2 := Blk.new ((w.alloc (.cells #[.int .i64 prio, .slice A N cap] 24)).alloc (.cells (boolC (fun _ => false) N) 4)) 4 (boolC (fun _ => false) N)
    rw [World.size_alloc, hsz] at h2
    rw [hsz] at h1
    exact ⟨(HB.out.alloc _).alloc _, h1.alloc _, h2, (HB1.out.alloc (by omega) _).alloc (by simp; omega) _⟩
  clear hsz
  have HS0 := Lib.hid hS0; have HG0 := Lib.hid hG0; have HG1 := Lib.hid hG1
  clear hS0 hG0 hG1
  go_enter Try.func27, Try.ntmps27
  go_wp2_with fail
  clear x0 x1 HB HB1 hmk
  generalize ((w.alloc (.cells #[.int .i64 prio, .slice A N cap] 24)).alloc (.cells (boolC (fun _ => false) N) 4)).alloc (.cells (boolC (fun _ => false) N) 4) = W2 at *
  generalize w.heap.size + 1 + 1 = G2 at *
  generalize w.heap.size + 1 = G1 at *
  go_loopw [31] (fun i wr => ∃ k : Nat, k ≤ N ∧ i = .int .i64 k ∧ StH w G1 G2 prio A N cap (fun _ => false) (fun i => decide (i < k) && decide (i = 0)) wr) (fun i _ => N - (intOf i).toNat)
  case atStart => exact ⟨0, Nat.zero_le _, rfl, by simpa using HS0.out⟩
  case round =>
    obtain ⟨k, hk, rfl, hst⟩ := hrel
    have HST := Lib.hid hst
    clear hst HS0
    by_cases hlt : k < N
    · have c0 := (HST.out.g2.cell k).trans (boolC_get _ hlt)
      have cf : wr.frozen? ⟨G2, k, none⟩ = false := HST.out.g2.free k
      have k0 : (0 : Int) ≤ (k : Int) := by omega
      have k1 : (k : Int) < (N : Int) := by omega
      have HN1 : ∀ b, decide (k = 0) = b → StH w G1 G2 prio A N cap (fun _ => false) (fun i => decide (i < k + 1) && decide (i = 0)) (wr.setCell ⟨G2, k, none⟩ (.bool b)) := fun b hb => HST.out.set2 HG0.out HG1.out hlt b (fun i _ => by
        by_cases e : i = k
        · subst e; rw [← hb, if_pos rfl, Bool.eq_iff_iff]; simp
        · have : decide (i < k) = decide (i < k + 1) := by rw [decide_eq_decide]; omega
          simp [e, this])
      have HN1 := Lib.hid HN1
      have HK := Lib.hid hlt
      by_cases e0 : k = 0
      · subst e0
        go_wp2_with fail
        go_roundw
        case rel => exact ⟨1, HK.out, by go_num, HN1.out _ rfl⟩
        case measure => simp [intOf]; have := HK.out; omega
      · have e1 : ¬ (k : Int) = 0 := by omega
        have e2 : ((k : Int) == 0) = false := by simpa using e0
        go_wp2_with fail
        go_roundw
        case rel => exact ⟨k + 1, by omega, by go_num, HN1.out _ (by simpa using e0)⟩
        case measure => simp [intOf]; omega
    · obtain rfl : k = N := by omega
      have t : ¬ (k : Int) < (k : Int) := by omega
      have HST2 : Hid (StH w G1 G2 prio A k cap (fun _ => false) (fun i => decide (i = 0)) wr) := by
        have := HST.out
        refine ⟨this.p, this.g1, ?_, this.b⟩
        have hg := this.g2
        rw [boolC_congr (g := fun i => decide (i = 0)) (fun i hi => by simp [hi])] at hg
        exact hg
      have hlen2 := hlen
      clear HST
      go_wp2_with fail
      go_loopw [12] (fun c wr => ∃ (b : Bool) (W O : Nat → Bool), c = .bool b ∧ StH w G1 G2 prio A k cap W O wr ∧ HInv l lock locks W O ∧ (b = false → ∀ a c, a < k → c < k → ¬ HOpn l lock locks W O a c)) (fun c wr => mesH k G1 G2 c wr)
      case atStart => exact ⟨true, _, _, rfl, HST2.out, HInv.start l lock locks, fun h => (by cases h)⟩
      case round =>
        obtain ⟨b, W, O, rfl, hst, hd, hc⟩ := hrel
        have HST := Lib.hid hst; have HD := Lib.hid hd; have HC := Lib.hid hc
        clear hst hd hc HST2
        cases b with
        | false =>
          obtain ⟨HW, HO⟩ := HDN.out W O HD.out (HC.out rfl)
          have HW := Lib.hid HW; have HO := Lib.hid HO
          have hb3 : Below wr.heap.size wr (wr.alloc (.cells (boolC (fun _ => false) k) 4)) := (Below.refl _ _).alloc (Nat.le_refl _) _
          have HST3 := Lib.hid (HST.out.below hb3)
          have HG3 := Lib.hid (Blk.new wr 4 (boolC (fun _ => false) k))
          have HG13 := Lib.hid HST.out.g1.lt; have HG23 := Lib.hid HST.out.g2.lt
          have hmk := run_make_row' (P := Try.prog) 29 4 (.bool false) 1 Try.underlying29 infoBool rfl .i64 .i64 k (by omega) (by omega)
          rw [boolC_made] at hmk
          clear HD HC HDN HGO hb3
          go_wp2_with fail
          clear hmk
          generalize wr.alloc (.cells (boolC (fun _ => false) k) 4) = W3 at *
          have HSZ : Hid (w.heap.size ≤ wr.heap.size) := HST.out.b.size
          clear HST
          generalize wr.heap.size = G3 at *
          go_loopw [172] (fun i wx => ∃ j : Nat, j ≤ k ∧ i = .int .i64 j ∧ StH w G1 G2 prio A k cap W O wx ∧ Blk wx G3 4 (boolC (fun i => decide (i < j) && (W i && !O i)) k)) (fun i _ => k - (intOf i).toNat)
          case atStart => exact ⟨0, Nat.zero_le _, rfl, HST3.out, by simpa using HG3.out⟩
          case round =>
            obtain ⟨j, hj, rfl, hst, hg3⟩ := hrel
            have HST := Lib.hid hst; have HGK := Lib.hid hg3
            clear hst hg3 HST3 HG3
            by_cases hlt : j < k
            · have c1 := (HST.out.g1.cell j).trans (boolC_get _ hlt)
              have c2 := (HST.out.g2.cell j).trans (boolC_get _ hlt)
              have cf : wr.frozen? ⟨G3, j, none⟩ = false := HGK.out.free j
              have c3 := (HGK.out.cell j).trans (boolC_get _ hlt)
              have j0 : (0 : Int) ≤ (j : Int) := by omega
              have j1 : (j : Int) < (k : Int) := by omega
              have HNX : Hid (∀ b, (W j && !O j) = b → StH w G1 G2 prio A k cap W O (wr.setCell ⟨G3, j, none⟩ (.bool b)) ∧ Blk (wr.setCell ⟨G3, j, none⟩ (.bool b)) G3 4 (boolC (fun i => decide (i < j + 1) && (W i && !O i)) k)) := fun b hb => by
                have hbut : But (fun i => i = G3) wr (wr.setCell ⟨G3, j, none⟩ (.bool b)) := (But.refl (fun i => i = G3) wr).set _ _ (.inl rfl)
                have h1 := HST.out
                have e1 := HG13.out; have e2 := HG23.out; have e3 := HG0.out; have e4 := HG1.out; have e5 := HSZ.out
                refine ⟨⟨h1.p.but hbut (by omega), h1.g1.but hbut (by omega), h1.g2.but hbut (by omega), h1.b.trans (hbut.below h1.b.size fun i _ e => by rw [e]; exact e5)⟩, ?_⟩
                have := HGK.out.set_ j (.bool b)
                rw [boolC_set _ b hlt] at this
                rw [boolC_congr (g := fun i => decide (i < j + 1) && (W i && !O i)) (fun i _ => by
                  by_cases e : i = j
                  · subst e; simp [hb]
                  · have : decide (i < j) = decide (i < j + 1) := by rw [decide_eq_decide]; omega
                    simp [e, this])] at this
                exact this
              obtain ⟨wj, hwj⟩ : ∃ b, W j = b := ⟨_, rfl⟩
              obtain ⟨oj, hoj⟩ : ∃ b, O j = b := ⟨_, rfl⟩
              rw [hwj] at c1 HNX; rw [hoj] at c2 HNX
              clear hwj hoj
              cases wj with
              | false =>
                have HNF := Lib.hid (HNX.out false rfl)
                go_wp2_with fail
                go_roundw
                case rel => exact ⟨j + 1, by omega, by go_num, HNF.out.1, HNF.out.2⟩
                case measure => simp [intOf]; omega
              | true =>
                have HNF := Lib.hid (HNX.out (!oj) (by simp))
                go_wp2_with fail
                go_roundw
                case rel => exact ⟨j + 1, by omega, by go_num, HNF.out.1, HNF.out.2⟩
                case measure => simp [intOf]; omega
            · obtain rfl : j = k := by omega
              have t : ¬ (j : Int) < (j : Int) := by omega
              have HGE : Hid (Blk wr G3 4 (boolC (fun i => W i && !O i) j)) := by
                have := HGK.out
                rw [boolC_congr (g := fun i => W i && !O i) (fun i hi => by simp [hi])] at this
                exact this
              go_wp2_with fail
              go_ret2
              exact ⟨W, O, G1, G3, rfl, HW.out, HO.out, HST.out.g1, HGE.out, Nat.le_of_lt HG0.out, HSZ.out, HST.out.b⟩
        | true =>
          have HMS := Lib.hid (mesH_eq HST.out true)
          have x0 := HST.out.p.cell 0; have x1 := HST.out.p.cell 1
          simp only [List.getElem?_toArray, List.getElem?_cons_zero, List.getElem?_cons_succ] at x0 x1
          clear HC
          go_wp2_with fail
          clear x0 x1
          go_loopw [12, 44] (fun c i wx => ∃ (b1 : Bool) (a : Nat) (W1 O1 : Nat → Bool), c = .bool b1 ∧ i = .int .i64 a ∧ a ≤ k ∧ StH w G1 G2 prio A k cap W1 O1 wx ∧ HInv l lock locks W1 O1 ∧ (b1 = false → W1 = W ∧ O1 = O ∧ ∀ a' c', a' < a → c' < k → ¬ HOpn l lock locks W O a' c') ∧ (b1 = true → cnt W k + cnt O k < cnt W1 k + cnt O1 k)) (fun _ i _ => k - (intOf i).toNat)
          case atStart => exact ⟨false, 0, W, O, rfl, rfl, Nat.zero_le _, HST.out, HD.out, fun _ => ⟨rfl, rfl, fun a' c' h => absurd h (by omega)⟩, fun h => (by cases h)⟩
          case round =>
            obtain ⟨b1, a, W1, O1, rfl, rfl, ha, hst, hd, hc0, hc1⟩ := hrel
            clear HST HD
            have HST := Lib.hid hst; have HD := Lib.hid hd; have HC0 := Lib.hid hc0; have HC1 := Lib.hid hc1
            clear hst hd hc0 hc1
            by_cases hlt : a < k
            · obtain ⟨x, hx⟩ : ∃ x, l[a]? = some x := ⟨_, List.getElem?_eq_getElem (by rw [HN.out]; exact hlt)⟩
              have HX := Lib.hid hx
              have x0 := HST.out.p.cell 0; have x1 := HST.out.p.cell 1
              simp only [List.getElem?_toArray, List.getElem?_cons_zero, List.getElem?_cons_succ] at x0 x1
              clear hx
              go_wp2_with fail
              clear x0 x1
              go_loopw [12, 50] (fun c j wy => ∃ (b2 : Bool) (c' : Nat) (W2 O2 : Nat → Bool), c = .bool b2 ∧ j = .int .i64 c' ∧ c' ≤ k ∧ StH w G1 G2 prio A k cap W2 O2 wy ∧ HInv l lock locks W2 O2 ∧ (b2 = false → b1 = false ∧ W2 = W1 ∧ O2 = O1 ∧ ∀ c'', c'' < c' → ¬ HOpn l lock locks W O a c'') ∧ (b2 = true → cnt W k + cnt O k < cnt W2 k + cnt O2 k)) (fun _ j _ => k - (intOf j).toNat)
              case atStart => exact ⟨b1, 0, W1, O1, rfl, rfl, Nat.zero_le _, HST.out, HD.out, fun h => ⟨h, rfl, rfl, fun b' h => absurd h (by omega)⟩, HC1.out⟩
              case round =>
                obtain ⟨b2, c, W2, O2, rfl, rfl, hcl, hst, hd, hd0, hd1⟩ := hrel
                clear HST HD
                have HST := Lib.hid hst; have HD := Lib.hid hd; have HD0 := Lib.hid hd0; have HD1 := Lib.hid hd1
                clear hst hd hd0 hd1
                by_cases hlc : c < k
                · have a0 : (0 : Int) ≤ (a : Int) := by omega
                  have a1 : (a : Int) < (k : Int) := by omega
                  have c0 : (0 : Int) ≤ (c : Int) := by omega
                  have c1 : (c : Int) < (k : Int) := by omega
                  have x0 := HST.out.p.cell 0; have x1 := HST.out.p.cell 1
                  simp only [List.getElem?_toArray, List.getElem?_cons_zero, List.getElem?_cons_succ] at x0 x1
                  have hno : ¬ HOpn l lock locks W2 O2 a c → (b2 = false → b1 = false ∧ W2 = W1 ∧ O2 = O1 ∧ ∀ c'', c'' < c + 1 → ¬ HOpn l lock locks W O a c'') := fun hn h => ⟨(HD0.out h).1, (HD0.out h).2.1, (HD0.out h).2.2.1, fun c'' hc'' => by
                    by_cases e : c'' = c
                    · subst e
                      obtain ⟨e1, e2, e3, _⟩ := HD0.out h
                      obtain ⟨f1, f2, _⟩ := HC0.out e1
                      rw [← f1, ← f2, ← e2, ← e3]; exact hn
                    · exact (HD0.out h).2.2.2 c'' (by omega)⟩
                  have HNO := Lib.hid hno
                  obtain ⟨q, hq⟩ : ∃ q, decide ((c : Int) ∈ nextP x a) = q := ⟨_, rfl⟩
                  have HQ := Lib.hid hq
                  have HCA := HGO.out wr a x c HST.out.b HX.out
                  rw [hq] at HCA
                  have HCA := Lib.hid HCA
                  clear hq hno
                  have HLC := Lib.hid hlc
                  cases q with
                  | false =>
                    have hn : ¬ HOpn l lock locks W2 O2 a c := fun ⟨y, hy, hm, _⟩ => by
                      obtain rfl := Option.some.inj (HX.out.symm.trans hy)
                      exact of_decide_eq_false HQ.out hm
                    have HNX := Lib.hid (HNO.out hn)
                    clear hn HNO
                    go_wp2_with (go_at_call 8; (with_reducible refine HCA.out.mono ?_); rintro e wq ⟨rfl, hb5⟩; have HB5 := Lib.hid hb5; clear hb5)
                    go_roundw
                    case rel => exact ⟨b2, c + 1, W2, O2, rfl, by go_num, by omega, HST.out.below HB5.out, HD.out, HNX.out, HD1.out⟩
                    case measure => simp [intOf]; omega
                  | true =>
                    go_wp2_with fail
                    refine HCA.out.mono ?_
                    rintro e wq ⟨rfl, hb5⟩
                    dsimp only
                    have HST5 := Lib.hid (HST.out.below hb5)
                    clear hb5 x0 x1 HCA HST
                    have x0 := HST5.out.p.cell 0; have x1 := HST5.out.p.cell 1
                    simp only [List.getElem?_toArray, List.getElem?_cons_zero, List.getElem?_cons_succ] at x0 x1
                    obtain ⟨ft, bb, off, rfl, -, d0, d1, d2, d3⟩ := (HI.out.below HST5.out.b) a x HX.out
                    obtain ⟨n0, n1⟩ := ft.n
                    obtain ⟨xo, xa, xb, xn⟩ := x
                    dsimp only at d0 d1 d2 d3 n0 n1
                    have HST6 := Lib.hid (HST5.out.below ((Below.refl wq.heap.size wq).alloc (Nat.le_refl _) (.cells #[.int .i64 xo, .int .i64 xa, .int .i64 xb, .int .i32 xn] 41)))
                    have HBX := Lib.hid (Blk.new wq 41 #[.int .i64 xo, .int .i64 xa, .int .i64 xb, .int .i32 xn])
                    go_upto_region 20 with fail
                    clear ft x0 x1 d0 d1 d2 d3 HST5
                    generalize wq.alloc (.cells #[.int .i64 xo, .int .i64 xa, .int .i64 xb, .int .i32 xn] 41) = W5 at *
                    generalize wq.heap.size = X5 at *
                    obtain ⟨T, hT⟩ : ∃ T, takesB ⟨xo, xa, xb, xn⟩ lock locks = T := ⟨_, rfl⟩
                    obtain ⟨V, hV⟩ : ∃ V, givesB ⟨xo, xa, xb, xn⟩ lock = V := ⟨_, rfl⟩
                    have hl16 : (lock : Int) < 16 := by omega
                    go_cut [16] (fun v wx => v = .bool T ∧ W5 = wx)
                    case first =>
                      as_aux_lemma =>
                        have y0 := HBX.out.cell 0; have y3 := HBX.out.cell 3
                        simp only [List.getElem?_toArray, List.getElem?_cons_zero, List.getElem?_cons_succ] at y0 y3
                        unfold takesB at hT
                        by_cases h9 : xo = 9
                        · subst h9
                          by_cases hn : xn = (lock : Int)
                          · subst hn
                            by_cases hl : (lock : Int) < locks
                            · obtain rfl : T = true := by rw [← hT]; simp [hl]
                              clear hT
                              go_wp2_with fail
                              go_meet
                              exact ⟨rfl, rfl⟩
                            · obtain rfl : T = false := by rw [← hT]; simp [hl]
                              have hl' : decide ((lock : Int) < locks) = false := by simpa using hl
                              clear hT
                              go_wp2_with fail
                              go_meet
                              exact ⟨rfl, rfl⟩
                          · obtain rfl : T = false := by rw [← hT]; simp [hn]
                            have hn' : (xn == (lock : Int)) = false := by simpa using hn
                            clear hT
                            go_wp2_with fail
                            go_meet
                            exact ⟨rfl, rfl⟩
                        · obtain rfl : T = false := by rw [← hT]; simp [h9]
                          have h9' : (xo == 9) = false := by simpa using h9
                          clear hT
                          go_wp2_with fail
                          go_meet
                          exact ⟨rfl, rfl⟩
                    case rest =>
                      obtain ⟨rfl, rfl⟩ := hcut
                      go_upto_region 21 with fail
                      go_cut [17] (fun v wx => v = .bool V ∧ W5 = wx)
                      case first =>
                        as_aux_lemma =>
                          have y0 := HBX.out.cell 0; have y3 := HBX.out.cell 3
                          simp only [List.getElem?_toArray, List.getElem?_cons_zero, List.getElem?_cons_succ] at y0 y3
                          unfold givesB at hV
                          by_cases h9 : xo = 10
                          · subst h9
                            by_cases hn : xn = (lock : Int)
                            · subst hn
                              obtain rfl : V = true := by rw [← hV]; simp
                              clear hV
                              go_wp2_with fail
                              go_meet
                              exact ⟨rfl, rfl⟩
                            · obtain rfl : V = false := by rw [← hV]; simp [hn]
                              have hn' : (xn == (lock : Int)) = false := by simpa using hn
                              clear hV
                              go_wp2_with fail
                              go_meet
                              exact ⟨rfl, rfl⟩
                          · obtain rfl : V = false := by rw [← hV]; simp [h9]
                            have h9' : (xo == 10) = false := by simpa using h9
                            clear hV
                            go_wp2_with fail
                            go_meet
                            exact ⟨rfl, rfl⟩
                      case rest =>
                        obtain ⟨rfl, rfl⟩ := hcut
                        have ca1 := (HST6.out.g1.cell a).trans (boolC_get _ hlt)
                        have ca2 := (HST6.out.g2.cell a).trans (boolC_get _ hlt)
                        obtain ⟨p1, hp1⟩ : ∃ p, W2 a = p := ⟨_, rfl⟩
                        obtain ⟨o1, ho1⟩ : ∃ p, O2 a = p := ⟨_, rfl⟩
                        rw [hp1] at ca1; rw [ho1] at ca2
                        obtain ⟨wv, hwv⟩ : ∃ v, wB ⟨xo, xa, xb, xn⟩ lock locks p1 o1 = v := ⟨_, rfl⟩
                        obtain ⟨ov, hov⟩ : ∃ v, oB ⟨xo, xa, xb, xn⟩ lock locks p1 o1 = v := ⟨_, rfl⟩
                        have HWV := Lib.hid hwv; have HOV := Lib.hid hov
                        have HP1 := Lib.hid hp1; have HO1 := Lib.hid ho1
                        unfold wB at hwv; unfold oB at hov
                        rw [hT, hV] at hwv hov
                        have hnb := not_both ⟨xo, xa, xb, xn⟩ lock locks
                        rw [hT, hV] at hnb
                        have HNB := Lib.hid hnb
                        clear hnb
                        clear hp1 ho1 hT hV HBX
                        go_upto_region 22 with fail
                        go_cut [18] (fun v wx => v = .bool wv ∧ W5 = wx)
                        case first =>
                          as_aux_lemma =>
                            clear hov HOV HWV HNB
                            cases p1 with
                            | true =>
                              obtain rfl : (!V) = wv := by simpa using hwv
                              clear hwv
                              go_wp2_with fail
                              go_meet
                              exact ⟨rfl, rfl⟩
                            | false =>
                              cases T with
                              | false =>
                                obtain rfl : false = wv := by simpa using hwv
                                clear hwv
                                go_wp2_with fail
                                go_meet
                                exact ⟨rfl, rfl⟩
                              | true =>
                                cases o1 with
                                | false =>
                                  obtain rfl : false = wv := by simpa using hwv
                                  clear hwv
                                  go_wp2_with fail
                                  go_meet
                                  exact ⟨rfl, rfl⟩
                                | true =>
                                  obtain rfl : (!V) = wv := by simpa using hwv
                                  clear hwv
                                  go_wp2_with fail
                                  go_meet
                                  exact ⟨rfl, rfl⟩
                        case rest =>
                          obtain ⟨rfl, rfl⟩ := hcut
                          clear hwv
                          go_upto_region 23 with fail
                          go_cut [19] (fun v wx => v = .bool ov ∧ W5 = wx)
                          case first =>
                            as_aux_lemma =>
                              clear HOV HWV
                              cases o1 with
                              | true =>
                                cases T with
                                | false =>
                                  obtain rfl : true = ov := by simpa using hov
                                  clear hov
                                  go_wp2_with fail
                                  go_meet
                                  exact ⟨rfl, rfl⟩
                                | true =>
                                  have hV0 : V = false := by
                                    cases e : V with
                                    | false => rfl
                                    | true => exact absurd ⟨rfl, e⟩ HNB.out
                                  subst hV0
                                  obtain rfl : false = ov := by simpa using hov
                                  clear hov
                                  go_wp2_with fail
                                  go_meet
                                  exact ⟨rfl, rfl⟩
                              | false =>
                                cases V with
                                | false =>
                                  obtain rfl : false = ov := by simpa using hov
                                  clear hov
                                  go_wp2_with fail
                                  go_meet
                                  exact ⟨rfl, rfl⟩
                                | true =>
                                  cases p1 with
                                  | true =>
                                    obtain rfl : true = ov := by simpa using hov
                                    clear hov
                                    go_wp2_with fail
                                    go_meet
                                    exact ⟨rfl, rfl⟩
                                  | false =>
                                    obtain rfl : false = ov := by simpa using hov
                                    clear hov
                                    go_wp2_with fail
                                    go_meet
                                    exact ⟨rfl, rfl⟩
                          case rest =>
                            obtain ⟨rfl, rfl⟩ := hcut
                            clear hov ca1 ca2
                            have cc1 := (HST6.out.g1.cell c).trans (boolC_get _ hlc)
                            have cc2 := (HST6.out.g2.cell c).trans (boolC_get _ hlc)
                            obtain ⟨p2, hp2⟩ : ∃ p, W2 c = p := ⟨_, rfl⟩
                            obtain ⟨o2, ho2⟩ : ∃ p, O2 c = p := ⟨_, rfl⟩
                            have HP2 := Lib.hid hp2; have HO2 := Lib.hid ho2
                            have hput := HD.out.put HX.out (of_decide_eq_true HQ.out)
                            rw [HP1.out, HO1.out, HWV.out, HOV.out, hp2, ho2] at hput
                            have HPUT := Lib.hid hput
                            have hs1 := HST6.out.set1 HG0.out HG1.out hlc (p2 || wv) (T := fun i => if i = c then p2 || wv else W2 i) (fun _ _ => rfl)
                            have hz1 : ∀ b : Bool, (W5.setCell ⟨G1, c, none⟩ (.bool b)).cell? ⟨G2, c, none⟩ = some (.bool (O2 c)) := fun b => ((HST6.out.set1 HG0.out HG1.out hlc b (T := fun i => if i = c then b else W2 i) (fun _ _ => rfl)).g2.cell c).trans (boolC_get _ hlc)
                            have hzf : ∀ b : Bool, (W5.setCell ⟨G1, c, none⟩ (.bool b)).frozen? ⟨G2, c, none⟩ = false := fun b => (HST6.out.set1 HG0.out HG1.out hlc b (T := fun i => if i = c then b else W2 i) (fun _ _ => rfl)).g2.free c
                            have HZ1 := Lib.hid hz1; have HZF := Lib.hid hzf
                            have HS2 := Lib.hid (hs1.set2 HG0.out HG1.out hlc (o2 || ov) (T := fun i => if i = c then o2 || ov else O2 i) (fun _ _ => rfl))
                            have cf1 : W5.frozen? ⟨G1, c, none⟩ = false := HST6.out.g1.free c
                            rw [hp2] at cc1; rw [ho2] at cc2
                            rw [ho2] at HZ1
                            have hcn1 := cnt_upd W2 hlc (p2 || wv) (by rw [hp2]; intro e; simp [e])
                            have hcn2 := cnt_upd O2 hlc (o2 || ov) (by rw [ho2]; intro e; simp [e])
                            rw [hp2] at hcn1; rw [ho2] at hcn2
                            have HCN1 := Lib.hid hcn1; have HCN2 := Lib.hid hcn2
                            have hge : cnt W k + cnt O k ≤ cnt W2 k + cnt O2 k := by
                              cases hb2 : b2 with
                              | false =>
                                obtain ⟨e1, e2, e3, _⟩ := HD0.out hb2
                                obtain ⟨f1, f2, _⟩ := HC0.out e1
                                rw [e2, e3, f1, f2]; exact Nat.le_refl _
                              | true => exact Nat.le_of_lt (HD1.out hb2)
                            have HGE := Lib.hid hge
                            have hnop : ¬ ((wv = true ∧ p2 = false) ∨ (ov = true ∧ o2 = false)) → ¬ HOpn l lock locks W2 O2 a c := fun hn ⟨y, hy, _, hz⟩ => by
                              obtain rfl := Option.some.inj (HX.out.symm.trans hy)
                              rw [HP1.out, HO1.out, HWV.out, HOV.out, HP2.out, HO2.out] at hz
                              exact hn hz
                            have HNOP := Lib.hid hnop
                            clear hput hs1 hcn1 hcn2 hge hnop hp2 ho2 hz1 hzf
                            go_upto_region 24 with fail
                            have hcs : (wv = true ∧ p2 = false) ∨ (¬ (wv = true ∧ p2 = false) ∧ ((ov = true ∧ o2 = false) ∨ ¬ (ov = true ∧ o2 = false))) := by
                              by_cases h1 : wv = true ∧ p2 = false
                              · exact .inl h1
                              · exact .inr ⟨h1, Classical.em _⟩
                            have HYES : Hid ((wv = true ∧ p2 = false) ∨ (ov = true ∧ o2 = false) → cnt W k + cnt O k < cnt (fun i => if i = c then p2 || wv else W2 i) k + cnt (fun i => if i = c then o2 || ov else O2 i) k) := fun h => by
                              rw [HCN1.out, HCN2.out]
                              have := HGE.out
                              rcases h with ⟨rfl, rfl⟩ | ⟨rfl, rfl⟩
                              · rw [if_pos (by simp)]; omega
                              · rw [if_pos (c := (false = false ∧ (false || true) = true)) (by simp)]; omega
                            clear HCN1 HCN2 HGE
                            rcases hcs with ⟨rfl, rfl⟩ | ⟨hn, ⟨rfl, rfl⟩ | hn2⟩
                            · clear HNO HNOP
                              cases o2 with
                              | true =>
                                as_aux_lemma =>
                                  have z1 := HZ1.out true; have zf := HZF.out true
                                  go_wp2_with fail
                                  go_roundw
                                  case rel => exact ⟨true, c + 1, _, _, rfl, by go_num, by omega, HS2.out, HPUT.out, (fun h => by cases h), fun _ => HYES.out (.inl ⟨rfl, rfl⟩)⟩
                                  case measure => simp [intOf]; omega
                              | false =>
                                as_aux_lemma =>
                                  have z1 := HZ1.out true; have zf := HZF.out true
                                  go_wp2_with fail
                                  go_roundw
                                  case rel => exact ⟨true, c + 1, _, _, rfl, by go_num, by omega, HS2.out, HPUT.out, (fun h => by cases h), fun _ => HYES.out (.inl ⟨rfl, rfl⟩)⟩
                                  case measure => simp [intOf]; omega
                            · clear HNO HNOP
                              cases wv with
                              | false =>
                                cases p2 with
                                | false =>
                                  as_aux_lemma =>
                                    have z1 := HZ1.out false; have zf := HZF.out false
                                    go_wp2_with fail
                                    go_roundw
                                    case rel => exact ⟨true, c + 1, _, _, rfl, by go_num, by omega, HS2.out, HPUT.out, (fun h => by cases h), fun _ => HYES.out (.inr ⟨rfl, rfl⟩)⟩
                                    case measure => simp [intOf]; omega
                                | true =>
                                  as_aux_lemma =>
                                    have z1 := HZ1.out true; have zf := HZF.out true
                                    go_wp2_with fail
                                    go_roundw
                                    case rel => exact ⟨true, c + 1, _, _, rfl, by go_num, by omega, HS2.out, HPUT.out, (fun h => by cases h), fun _ => HYES.out (.inr ⟨rfl, rfl⟩)⟩
                                    case measure => simp [intOf]; omega
                              | true =>
                                obtain rfl : p2 = true := by cases p2 <;> simp_all
                                clear hn
                                as_aux_lemma =>
                                  have z1 := HZ1.out true; have zf := HZF.out true
                                  go_wp2_with fail
                                  go_roundw
                                  case rel => exact ⟨true, c + 1, _, _, rfl, by go_num, by omega, HS2.out, HPUT.out, (fun h => by cases h), fun _ => HYES.out (.inr ⟨rfl, rfl⟩)⟩
                                  case measure => simp [intOf]; omega
                            · clear HYES HS2 HPUT HZ1 HZF cf1
                              cases wv with
                              | false =>
                                cases ov with
                                | false =>
                                  as_aux_lemma =>
                                    go_wp2_with fail
                                    go_roundw
                                    case rel => exact ⟨b2, c + 1, W2, O2, rfl, by go_num, by omega, HST6.out, HD.out, HNO.out (HNOP.out (by simp)), HD1.out⟩
                                    case measure => simp [intOf]; omega
                                | true =>
                                  obtain rfl : o2 = true := by cases o2 <;> simp_all
                                  clear hn hn2
                                  as_aux_lemma =>
                                    go_wp2_with fail
                                    go_roundw
                                    case rel => exact ⟨b2, c + 1, W2, O2, rfl, by go_num, by omega, HST6.out, HD.out, HNO.out (HNOP.out (by simp)), HD1.out⟩
                                    case measure => simp [intOf]; omega
                              | true =>
                                obtain rfl : p2 = true := by cases p2 <;> simp_all
                                cases ov with
                                | false =>
                                  clear hn hn2
                                  as_aux_lemma =>
                                    go_wp2_with fail
                                    go_roundw
                                    case rel => exact ⟨b2, c + 1, W2, O2, rfl, by go_num, by omega, HST6.out, HD.out, HNO.out (HNOP.out (by simp)), HD1.out⟩
                                    case measure => simp [intOf]; omega
                                | true =>
                                  obtain rfl : o2 = true := by cases o2 <;> simp_all
                                  clear hn hn2
                                  as_aux_lemma =>
                                    go_wp2_with fail
                                    go_roundw
                                    case rel => exact ⟨b2, c + 1, W2, O2, rfl, by go_num, by omega, HST6.out, HD.out, HNO.out (HNOP.out (by simp)), HD1.out⟩
                                    case measure => simp [intOf]; omega
                · obtain rfl : c = k := by omega
                  have t : ¬ (c : Int) < (c : Int) := by omega
                  go_wp2_with fail
                  go_roundw
                  case rel => exact ⟨b2, a + 1, W2, O2, rfl, by go_num, by omega, HST.out, HD.out, fun h => ⟨(HD0.out h).2.1.trans (HC0.out (HD0.out h).1).1, (HD0.out h).2.2.1.trans (HC0.out (HD0.out h).1).2.1, fun a' c' h1 h2 => by
                    by_cases e : a' = a
                    · subst e; exact (HD0.out h).2.2.2 c' h2
                    · exact (HC0.out (HD0.out h).1).2.2 a' c' (by omega) h2⟩, HD1.out⟩
                  case measure => simp [intOf]; omega
            · obtain rfl : a = k := by omega
              have t : ¬ (a : Int) < (a : Int) := by omega
              have HME := Lib.hid (mesH_eq HST.out b1)
              have hcl := cnt_le W1 a
              have hcl2 := cnt_le O1 a
              have x0 := HST.out.p.cell 0; have x1 := HST.out.p.cell 1
              simp only [List.getElem?_toArray, List.getElem?_cons_zero, List.getElem?_cons_succ] at x0 x1
              go_wp2_with fail
              go_roundw
              case rel => exact ⟨b1, W1, O1, rfl, HST.out, HD.out, fun h => by rw [(HC0.out h).1, (HC0.out h).2.1]; exact (HC0.out h).2.2⟩
              case measure =>
                rw [HMS.out, HME.out]
                cases b1 with
                | false => rw [(HC0.out rfl).1, (HC0.out rfl).2.1]; simp
                | true => have := HC1.out rfl; simp; omega
end Go.Proofs.Ythoddoabcdbliaa
