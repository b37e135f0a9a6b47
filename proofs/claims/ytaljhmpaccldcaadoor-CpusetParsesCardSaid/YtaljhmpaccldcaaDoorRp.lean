/- The document's Parse: its contract. -/
import Derived.Test.YtaljhmpaccldcaaDoorPr
import Derived.Test.YtaljhmpaccldcaaDoorPp
import Derived.Test.YtaljhmpaccldcaaDoorLi
import Derived.Deep.LoopGhost
import Derived.Deep.Cut
import Derived.Deep.CutRange
import Derived.Deep.CutBlock
import Derived.Deep.DeepCutAuto
namespace Go.Proofs.YtaljhmpaccldcaaDoor
open Go.RowKit

/-- The members of a list. -/
def memP (L : List Nat) : Nat → Bool := fun n => decide (n ∈ L)
theorem cnt_push (p : Nat → Bool) (k K : Nat) (hk : k < K) (h : p k = false) : cnt (fun n => p n || decide (n = k)) K = cnt p K + 1 := by
  induction K with
  | zero => omega
  | succ K ih =>
    rw [cnt, cnt]
    by_cases e : k = K
    · subst e
      rw [cnt_congr (q := p) k (fun m hm => by simp; omega)]
      simp [h]
    · rw [ih (by omega), show (p K || decide (K = k)) = p K by simp; omega]
      omega
theorem mem_push (L : List Nat) (k : Nat) : memP (L ++ [k]) = fun n => memP L n || decide (n = k) := by
  funext n; simp [memP]
/-- No longer than its members are many. -/
def Thin (L : List Nat) : Prop := L.length ≤ cnt (memP L) 1024
theorem Thin.push {L : List Nat} {k : Nat} (h : Thin L) (hk : k < 1024) (hn : memP L k = false) : Thin (L ++ [k]) := by
  unfold Thin; rw [mem_push, cnt_push _ _ _ hk hn]; unfold Thin at h; simp; omega
theorem Thin.le {L : List Nat} (h : Thin L) : L.length ≤ 1024 := Nat.le_trans h (cnt_le _ _)
/-- f and the next ones, k of them. -/
def rng (f k : Nat) : List Nat := (List.range k).map (f + ·)
theorem rng_succ (f k : Nat) : rng f (k + 1) = rng f k ++ [f + k] := by simp [rng, List.range_succ]
theorem mem_rng (L : List Nat) (f t : Nat) (h : f ≤ t) : memP (L ++ rng f (t + 1 - f)) = fun n => memP L n || (decide (f ≤ n) && decide (n ≤ t)) := by
  funext n
  simp only [memP, rng, List.mem_append, List.mem_map, List.mem_range, Bool.decide_or]
  congr 1
  rw [Bool.eq_iff_iff]; simp only [decide_eq_true_eq, Bool.and_eq_true]
  constructor
  · rintro ⟨a, h1, rfl⟩; omega
  · rintro ⟨h1, h2⟩; exact ⟨n - f, by omega, by omega⟩
theorem cells_mem (L : List Nat) : cellsOf (ofP (fun i => ((L.getD i 0 : Nat) : Int)) L.length) = cellsOf (memP L) :=
  cellsOf_congr fun n _ => by rw [ofP_list]; rfl
/-- Two rows in one world, each in a block of its own. -/
structure Rows2 (w : World) (B : Nat) (a b : Value) (la lb : List Nat) : Prop where
  oa : OwnN w B a la
  ob : OwnN w B b lb
  ab : ∀ g, a.ownBlock = some g → b.ownBlock ≠ some g
theorem Rows2.swap {w : World} {B : Nat} {a b : Value} {la lb : List Nat} (h : Rows2 w B a b la lb) : Rows2 w B b a lb la := ⟨h.ob, h.oa, fun g e1 e2 => h.ab g e2 e1⟩
theorem Rows2.on {w w' : World} {B : Nat} {a b : Value} {la lb : List Nat} (h : Rows2 w B a b la lb) (hb : Below w.heap.size w w') : Rows2 w' B a b la lb :=
  ⟨own_below h.oa hb, own_below h.ob hb, h.ab⟩
theorem Rows2.push {w w' : World} {B g cap k : Nat} {a b : Value} {la lb : List Nat} (h : Rows2 w B a b la lb) {o : Obj}
    (ho : w'.ownsRow B 3 1 (.slice (some ⟨g, 0, none⟩) (la.length + 1) cap) (la.length + 1) (natCells la ++ [.int .i64 (k : Int)])) (hg : (w.alloc o).grownBy w' a.ownBlock) (hat : a.ownBlock = some g ∨ g = w.heap.size + 1) :
    Rows2 w' B (.slice (some ⟨g, 0, none⟩) (la.length + 1) cap) b (la ++ [k]) lb := by
  refine ⟨?_, (h.ob.alloc o).kept hg ?_, ?_⟩
  · rw [natCells_app] at ho; simpa [OwnN] using ho
  · cases e : b.ownBlock with
    | none => exact .inl rfl
    | some x => exact .inr fun e2 => h.ab x e2.symm e
  · intro x hx e
    have hx' : g = x := by simpa [Value.ownBlock] using hx
    subst hx'
    rcases hat with hat | hat
    · exact h.ab g hat e
    · have := (h.ob.lt g e).2; omega
theorem Rows2.nil {w : World} {B : Nat} {b : Value} {lb : List Nat} (h : OwnN w B b lb) : Rows2 w B (.slice none 0 0) b [] lb :=
  ⟨World.ownsRow_nil _ _ _ _, h, fun g e => by simp [Value.ownBlock] at e⟩
theorem Rows2.below {w w' : World} {B : Nat} {a b : Value} {la lb : List Nat} {o : Obj} (h : Rows2 w B a b la lb) (hg : (w.alloc o).grownBy w' a.ownBlock) (hB : B ≤ w.heap.size) : Below B w w' :=
  push_below h.oa hg hB (rfl : B = B)

/-- What the item's row reads as: its first number and its last. -/
theorem ends_cells {w : World} {B g n q cap f t : Nat} {el : List Nat} (h : OwnN w B (.slice (some ⟨g, 0, none⟩) n cap) el) (he : el = [f] ∧ t = f ∨ el = [f, t]) (hq : (n : Int) - 1 = (q : Int)) :
    w.cell? ⟨g, 0, none⟩ = some (.int .i64 f) ∧ w.cell? ⟨g, q, none⟩ = some (.int .i64 t) := by
  have hn : n = el.length := by
    rcases h.2 with ⟨h1, _⟩ | ⟨g2, c2, _, h1, _⟩
    · cases h1
    · injection h1
  rcases he with ⟨rfl, rfl⟩ | rfl
  · have c0 := h.cells (g := g) rfl 0 (.int .i64 t) (by simp [natCells])
    obtain rfl : q = 0 := by simp at hn; omega
    exact ⟨by simpa [Addr.add] using c0, by simpa [Addr.add] using c0⟩
  · have c0 := h.cells (g := g) rfl 0 (.int .i64 f) (by simp [natCells])
    have c1 := h.cells (g := g) rfl 1 (.int .i64 t) (by simp [natCells])
    obtain rfl : q = 1 := by simp at hn; omega
    exact ⟨by simpa [Addr.add] using c0, by simpa [Addr.add] using c1⟩
theorem ends_cells2 {w : World} {B g n q cap : Nat} (f t : Nat) {el : List Nat} (h : OwnN w B (.slice (some ⟨g, 0, none⟩) n cap) el) (he : el = [f] ∧ t = f ∨ el = [f, t]) (hq : (n : Int) - 1 = (q : Int)) :
    w.cell? ⟨g, 0, none⟩ = some (.int .i64 f) ∧ w.cell? ⟨g, q, none⟩ = some (.int .i64 t) := ends_cells h he hq
theorem ends_form {w : World} {B f t : Nat} {v u : Value} {el L : List Nat} (h : Rows2 w B v u el L) (he : el = [f] ∧ t = f ∨ el = [f, t]) :
    ∃ g n q cap, v = .slice (some ⟨g, 0, none⟩) n cap ∧ g < w.heap.size ∧ (n : Int) - 1 = ((q : Nat) : Int) ∧ q < n ∧ w.cell? ⟨g, 0, none⟩ = some (.int .i64 f) ∧ w.cell? ⟨g, q, none⟩ = some (.int .i64 t) := by
  have hpos : 0 < el.length := by rcases he with ⟨rfl, _⟩ | rfl <;> simp
  obtain ⟨g, cap, rfl, _, hg⟩ := h.oa.form hpos
  obtain ⟨c0, c1⟩ := ends_cells (q := el.length - 1) h.oa he (by omega)
  exact ⟨g, el.length, el.length - 1, cap, rfl, hg, by omega, by omega, c0, c1⟩
theorem ends_two {w : World} {B g n q cap f t : Nat} {u : Value} {el L : List Nat} (h : Rows2 w B (.slice (some ⟨g, 0, none⟩) n cap) u el L) (he : el = [f] ∧ t = f ∨ el = [f, t]) (hq : (n : Int) - 1 = (q : Int)) : n = 1 ∧ q = 0 ∨ n = 2 ∧ q = 1 := by
  have hn : n = el.length := by
    rcases h.oa.2 with ⟨h1, _⟩ | ⟨g2, c2, _, h1, _⟩
    · cases h1
    · injection h1
  rcases he with ⟨rfl, _⟩ | rfl
  · simp at hn; omega
  · simp at hn; omega
theorem number_cases (c : Nat → Nat) (len j : Nat) (h : j ≤ len) : ∃ m v, numEnd c len j - j = m ∧ refV c j m = v ∧ j + m ≤ len ∧ v < 50010 ∧
    ((j = len ∧ m = 0 ∧ numberR c len j = (0, j, 22)) ∨ (j < len ∧ m = 0 ∧ numberR c len j = (0, j, 20)) ∨ (j < len ∧ 0 < m ∧ 1024 ≤ v ∧ numberR c len j = (0, j, 26)) ∨
     (j < len ∧ v < 1024 ∧ 1 < m ∧ c j = 48 ∧ numberR c len j = (0, j, 26)) ∨ (j < len ∧ v < 1024 ∧ m = 1 ∧ numberR c len j = (v, j + m, 0)) ∨ (j < len ∧ v < 1024 ∧ 1 < m ∧ c j ≠ 48 ∧ numberR c len j = (v, j + m, 0))) := by
  obtain ⟨g1, g2, g3, g4⟩ := numEnd_spec c len j h
  refine ⟨_, _, rfl, rfl, by omega, refV_lt _ _ _ fun i a b => g3 i a (by omega), ?_⟩
  have hv := numV_ref c j (numEnd c len j - j)
  have hj : j + (numEnd c len j - j) = numEnd c len j := by omega
  unfold numberR
  rw [hj, hv]
  generalize refV c j (numEnd c len j - j) = v at *
  generalize numEnd c len j = e at *
  clear hv g3 g4
  by_cases h1 : j = len
  · left; rw [if_pos h1]; exact ⟨h1, by omega, rfl⟩
  rw [if_neg h1]; right
  by_cases h2 : e = j
  · left; rw [if_pos h2]; exact ⟨by omega, by omega, rfl⟩
  rw [if_neg h2]; right
  by_cases h3 : 1024 ≤ v
  · left; rw [if_pos (by omega)]; exact ⟨by omega, by omega, h3, rfl⟩
  rw [if_neg (by omega)]; right
  by_cases h4 : c j = 48 ∧ j + 1 < e
  · left; rw [if_pos h4]; exact ⟨by omega, by omega, by omega, h4.1, rfl⟩
  rw [if_neg h4, show min v 1024 = v by omega]; right
  by_cases h5 : e = j + 1
  · left; exact ⟨by omega, by omega, by omega, rfl⟩
  · right; exact ⟨by omega, by omega, by omega, fun e2 => h4 ⟨e2, by omega⟩, rfl⟩
theorem item_err (c : Nat → Nat) (len k er : Nat) (h : numberR c len k = (0, k, er)) (he : er ≠ 0) : itemR c len k = (0, 0, k, er) := by
  unfold itemR; rw [h]; simp [he]
theorem item_one (c : Nat → Nat) (len k f e : Nat) (h : numberR c len k = (f, e, 0)) (he : ¬ (e < len ∧ c e = 45)) : itemR c len k = tailR c len f f e := by
  unfold itemR; rw [h]; simp only; rw [if_neg (by simp), if_neg he]
theorem item_err2 (c : Nat → Nat) (len k f e er : Nat) (h : numberR c len k = (f, e, 0)) (he : e < len ∧ c e = 45) (h2 : numberR c len (e + 1) = (0, e + 1, er)) (her : er ≠ 0) : itemR c len k = (0, 0, e + 1, er) := by
  unfold itemR; rw [h]; simp only; rw [if_neg (by simp), if_pos he, h2]; simp [her]
theorem item_less (c : Nat → Nat) (len k f e v e2 : Nat) (h : numberR c len k = (f, e, 0)) (he : e < len ∧ c e = 45) (h2 : numberR c len (e + 1) = (v, e2, 0)) (hv : v < f) : itemR c len k = (0, 0, e + 1, 26) := by
  unfold itemR; rw [h]; simp only; rw [if_neg (by simp), if_pos he, h2]; simp [hv]
theorem item_two (c : Nat → Nat) (len k f e v e2 : Nat) (h : numberR c len k = (f, e, 0)) (he : e < len ∧ c e = 45) (h2 : numberR c len (e + 1) = (v, e2, 0)) (hv : f ≤ v) : itemR c len k = tailR c len f v e2 := by
  unfold itemR; rw [h]; simp only; rw [if_neg (by simp), if_pos he, h2]; simp only; rw [if_neg (by simp), if_neg (by omega)]
theorem parse_err (c : Nat → Nat) (len fu : Nat) (p : Nat → Bool) (k j er : Nat) (h : itemR c len k = (0, 0, j, er)) (he : er ≠ 0) : parseR c len (fu + 1) p k = (fun _ => false, er, j) := by
  rw [parseR, h]; simp [he]

set_option maxRecDepth 100000 in
set_option maxHeartbeats 8000000 in
theorem refParse_some (s : ByteArray) (w : World) (hs : s.size ≤ 100000) (hpos : 0 < s.size) :
    Calls Tryd.prog 30 #[.string s] w fun e w' => e = .returned (parseV (parseR (byteAt s) s.size (s.size + 1) (fun _ => false) 0)) ∧ Below w.heap.size w w' := by
  generalize hRR : parseR (byteAt s) s.size (s.size + 1) (fun _ => false) 0 = RR
  have HR := Lib.hid (show parseR (byteAt s) s.size (s.size + 1) (memP []) 0 = RR from hRR); clear hRR
  have hz := cellsOf_zero.symm
  obtain ⟨i0, hi0, hz0, hz1, hz2⟩ := info_parts infoInt
  have HI := Lib.hid (show Row1 (w.heap.size + 1) (w.alloc (.cells (cellsOf fun _ => false) 25)) [] (.slice none 0 0) (w.alloc (.cells (cellsOf fun _ => false) 25)) from ⟨Below.refl _ _, by simp, World.ownsRow_nil _ _ _ _⟩)
  have hts : decide (0 < (s.size : Int)) = true := by simp; omega
  go_enter Tryd.func30, Tryd.ntmps30
  go_wp2
  go_loopg [5, 6] (s.size + 1) (fun g lv iv wr => ∃ (k fu : Nat) (L : List Nat), k ≤ s.size ∧ g = s.size + 1 - k ∧ s.size + 1 ≤ fu + k ∧ iv = .int .i64 k ∧ parseR (byteAt s) s.size fu (memP L) k = RR ∧ Thin L ∧ Row1 (w.heap.size + 1) (w.alloc (.cells (cellsOf fun _ => false) 25)) L lv wr)
  case atStart => exact ⟨0, s.size + 1, [], by omega, by omega, by omega, rfl, HR.out, Nat.zero_le _, HI.out⟩
  case round =>
    obtain ⟨k, fu, L, hk, rfl, hfu, rfl, hR, hT, hI⟩ := hrel
    clear HI
    have HT := Lib.hid hT; have HP' := Lib.hid hR; have HJ := Lib.hid hI
    clear hT hR hI
    obtain ⟨fu, rfl⟩ : ∃ n, fu = n + 1 := ⟨fu - 1, by omega⟩
    have HP := HP'; clear HP'
    go_upto_region 3 with fail
    go_cut [27] (fun c wx => c = .bool true ∧ wx = wr)
    case first =>
      by_cases h : k < s.size
      · have t1 : decide ((k : Int) < (s.size : Int)) = true := by simp; omega
        go_wp2
        go_meet
        exact ⟨rfl, rfl⟩
      · obtain rfl : k = s.size := by omega
        go_wp2
        go_meet
        exact ⟨rfl, rfl⟩
    case rest =>
      obtain ⟨rfl, hwc⟩ := hcut
      subst hwc
      go_upto_block 2 with fail
      go_cut [6, 8] (fun iv ev wx => ∃ (f t e : Nat) (el : List Nat), iv = .int .i64 e ∧ k < e ∧ e ≤ s.size ∧ f ≤ t ∧ t < 1024 ∧ itemR (byteAt s) s.size k = tailR (byteAt s) s.size f t e ∧ (el = [f] ∧ t = f ∨ el = [f, t]) ∧ Below (w.heap.size + 1) (w.alloc (.cells (cellsOf fun _ => false) 25)) wx ∧ w.heap.size + 1 ≤ wx.heap.size ∧ Rows2 wx (w.heap.size + 1) ev u5 el L)
      case first =>
        go_wp2_with fail
        go_loopg [6, 8] (s.size + 1 - k) (fun g iv ev wx => ∃ j, j ≤ s.size ∧ g = s.size + 1 - j ∧ iv = .int .i64 j ∧ k ≤ j ∧ Below (w.heap.size + 1) (w.alloc (.cells (cellsOf fun _ => false) 25)) wx ∧ w.heap.size + 1 ≤ wx.heap.size ∧ ((j = k ∧ ev = .slice none 0 0 ∧ OwnN wx (w.heap.size + 1) u5 L) ∨ ∃ f e1 gb cap, j = e1 + 1 ∧ e1 < s.size ∧ byteAt s e1 = 45 ∧ numberR (byteAt s) s.size k = (f, e1, 0) ∧ f < 1024 ∧ k < e1 ∧ ev = .slice (some ⟨gb, 0, none⟩) 1 cap ∧ wx.cell? ⟨gb, 0, none⟩ = some (.int .i64 f) ∧ Rows2 wx (w.heap.size + 1) ev u5 [f] L))
        case atStart => exact ⟨k, hk, rfl, rfl, Nat.le_refl _, HJ.out.bel, HJ.out.lt, .inl ⟨rfl, rfl, HJ.out.own⟩⟩
        case round =>
          obtain ⟨j, hj, rfl, rfl, hkj, hb, hlt, hst⟩ := hrel
          clear HJ
          obtain ⟨m, v, hm, hv, hjm, hv5, hcs⟩ := number_cases (byteAt s) s.size j hj
          have HN : Hid (∀ W, Calls Tryd.prog 37 #[.string s, .int .i64 j] W fun e w' => e = .returned (.tuple #[.int .i64 v, .int .i64 m]) ∧ W = w') := fun W => by
            have := refNumber_any s j W hs hj; rw [hm, hv] at this; exact this
          clear hm hv
          have K0 := Lib.hid ((hb.block w.heap.size (by omega)).trans (heap_alloc_new w (.cells (cellsOf fun _ => false) 25)))
          have HBW := Lib.hid (show Below w.heap.size w wr from ((Below.refl _ _).alloc (Nat.le_refl _) _).trans (hb.mono (by omega)))
          have HB := Lib.hid hb; clear hb
          rcases hst with ⟨hjk, rfl, hown⟩ | ⟨f, e1, gb, cap, rfl, he1, h45, hnr, hf, hke, rfl, hc0, hrows⟩
          · have hkj2 := hjk.symm
            clear hjk
            subst hkj2
            have HOWN := Lib.hid hown; clear hown
            rcases hcs with ⟨c1, c2, c9⟩ | ⟨c1, c2, c9⟩ | ⟨c1, c2, c3, c9⟩ | ⟨c1, hv1, c2, c3, c9⟩ | ⟨c1, hv1, c2, c9⟩ | ⟨c1, hv1, c2, c3, c9⟩
            · subst c2
              have tl : decide ((s.size : Int) ≤ (k : Int)) = true := by simp; omega
              have tl2 : decide (s.size ≤ k) = true := by simp; omega
              have hkl : (k) = s.size := c1
              have it := item_err _ _ _ 22 c9 (by decide)
              have hp := HP.out
              rw [parse_err _ _ fu _ k k 22 it (by decide)] at hp
              have HP2 := Lib.hid hp; clear hp it
              rw [hkl] at HP2
              have HKL := Lib.hid hkl; clear hkl c1
              go_wp2_with (first | (go_at_call 37; refine (HN.out _).mono ?_; rintro e' w' ⟨rfl, rfl⟩) | (with_reducible (show wpList _ _ _ _ _ _); refine st_set rfl _ _ rfl _ _ rfl rfl _ K0.out (cellsOf_size _) ?_))
              refine res_set3 rfl _ _ rfl (setRow_heap _ _ _ _ _ _ K0.out) rfl ⟨by rw [← HP2.out] <;> rfl, ?_⟩
              exact below_setRow HBW.out (Nat.le_refl _) _
            · subst c2
              have tl : decide ((s.size : Int) ≤ (k : Int)) = false := by simp; omega
              have tl2 : decide (s.size ≤ k) = false := by simp; omega
              have it := item_err _ _ _ 20 c9 (by decide)
              have hp := HP.out
              rw [parse_err _ _ fu _ k k 20 it (by decide)] at hp
              have HP2 := Lib.hid hp; clear hp it
              go_wp2_with (first | (go_at_call 37; refine (HN.out _).mono ?_; rintro e' w' ⟨rfl, rfl⟩) | (with_reducible (show wpList _ _ _ _ _ _); refine st_set rfl _ _ rfl _ _ rfl rfl _ K0.out (cellsOf_size _) ?_))
              refine res_set3 rfl _ _ rfl (setRow_heap _ _ _ _ _ _ K0.out) rfl ⟨by rw [← HP2.out] <;> rfl, ?_⟩
              exact below_setRow HBW.out (Nat.le_refl _) _
            · have tm : ((m : Int) == 0) = false := by simp; omega
              have tv : decide ((1023 : Int) < (v : Int)) = true := by simp; omega
              have it := item_err _ _ _ 26 c9 (by decide)
              have hp := HP.out
              rw [parse_err _ _ fu _ k k 26 it (by decide)] at hp
              have HP2 := Lib.hid hp; clear hp it
              go_wp2_with (first | (go_at_call 37; refine (HN.out _).mono ?_; rintro e' w' ⟨rfl, rfl⟩) | (with_reducible (show wpList _ _ _ _ _ _); refine st_set rfl _ _ rfl _ _ rfl rfl _ K0.out (cellsOf_size _) ?_))
              refine res_set3 rfl _ _ rfl (setRow_heap _ _ _ _ _ _ K0.out) rfl ⟨by rw [← HP2.out] <;> rfl, ?_⟩
              exact below_setRow HBW.out (Nat.le_refl _) _
            · have tm : ((m : Int) == 0) = false := by simp; omega
              have tv : decide ((1023 : Int) < (v : Int)) = false := by simp; omega
              have t1 : decide ((1 : Int) < (m : Int)) = true := by simp; omega
              have hat0 := byteAt_eq s (k) c1
              have t48 : ((byteAt s (k) : Int) == 48) = true := by simp; omega
              have it := item_err _ _ _ 26 c9 (by decide)
              have hp := HP.out
              rw [parse_err _ _ fu _ k k 26 it (by decide)] at hp
              have HP2 := Lib.hid hp; clear hp it
              go_wp2_with (first | (go_at_call 37; refine (HN.out _).mono ?_; rintro e' w' ⟨rfl, rfl⟩) | (with_reducible (show wpList _ _ _ _ _ _); refine st_set rfl _ _ rfl _ _ rfl rfl _ K0.out (cellsOf_size _) ?_))
              refine res_set3 rfl _ _ rfl (setRow_heap _ _ _ _ _ _ K0.out) rfl ⟨by rw [← HP2.out] <;> rfl, ?_⟩
              exact below_setRow HBW.out (Nat.le_refl _) _
            · subst c2
              have HNR := Lib.hid c9; clear c9
              have tv : decide ((1023 : Int) < (v : Int)) = false := by simp; omega
              have R0 := Lib.hid (Rows2.nil (B := w.heap.size + 1) (w := wr) HOWN.out)
              go_wp2_with (first | (go_at_call 37; refine (HN.out _).mono ?_; rintro e' w' ⟨rfl, rfl⟩) | (at_builtin; refine wpList_append_lies _ rfl (.tmp 76) (.tmp 78) 22 rfl (w.heap.size + 1) 3 i0 (.int .i64 0) 1 8 Tryd.underlying22 hi0 hz0 hz1 hz2 rfl (by decide) _ _ _ rfl (R0.out.oa.alloc _) ⟨wr.heap.size, 0, none⟩ 1 1 [.int .i64 v] rfl rfl ?_ ?_ (by decide) ?_ ?_ ?_ (wr.heap.size + 1) ?_ ?_))
              · exact cell_one_new _ _ _
              · intro u hu; simp at hu; subst hu; rfl
              · unfold maxLen; simp
              · simp
              · simp; omega
              · simp
              intro g cap w3 own3 g3 hat3 hl3
              have r3 := R0.out.push own3 g3 hat3
              have b3 := R0.out.below g3 hlt
              have R3 := Lib.hid r3
              have B3 := Lib.hid (HB.out.trans b3)
              have hlt3 : w.heap.size + 1 ≤ w3.heap.size := Nat.le_trans hlt b3.size
              clear own3 g3 hat3 r3 b3
              have c3 : w3.cell? ⟨g, 0, none⟩ = some (.int .i64 v) := by
                have := R3.out.oa.cells (g := g) rfl 0 (.int .i64 v) (by simp [natCells]); simpa [Addr.add] using this
              have HC3 := Lib.hid c3; clear c3
              by_cases he : k + 1 < s.size
              · have te : decide ((s.size : Int) ≤ (k : Int) + 1) = false := by simp; omega
                have hat := byteAt_eq s (k + 1) he
                by_cases h45 : byteAt s (k + 1) = 45
                · have t45 : ((byteAt s (k + 1) : Int) != 45) = false := by simp; omega
                  go_wp2_with fail
                  go_roundg (s.size + 1 - (k + 1 + 1))
                  case measure => omega
                  case rel => exact ⟨k + 1 + 1, by omega, rfl, by go_num, by omega, B3.out, hlt3, .inr ⟨v, k + 1, g, cap, rfl, he, h45, HNR.out, hv1, by omega, rfl, HC3.out, R3.out⟩⟩
                · have t45 : ((byteAt s (k + 1) : Int) != 45) = true := by simp; omega
                  go_wp2_with fail
                  go_meet
                  exact ⟨v, v, k + 1, [v], by go_num, by omega, by omega, Nat.le_refl _, hv1, item_one _ _ _ _ _ HNR.out (fun h => h45 h.2), .inl ⟨rfl, rfl⟩, B3.out, hlt3, R3.out⟩
              · have te : decide ((s.size : Int) ≤ (k : Int) + 1) = true := by simp; omega
                go_wp2_with fail
                go_meet
                exact ⟨v, v, k + 1, [v], by go_num, by omega, by omega, Nat.le_refl _, hv1, item_one _ _ _ _ _ HNR.out (fun h => he h.1), .inl ⟨rfl, rfl⟩, B3.out, hlt3, R3.out⟩
            · have tm : ((m : Int) == 0) = false := by simp; omega
              have HNR := Lib.hid c9; clear c9
              have tv : decide ((1023 : Int) < (v : Int)) = false := by simp; omega
              have t1 : decide ((1 : Int) < (m : Int)) = true := by simp; omega
              have hat0 := byteAt_eq s (k) c1
              have t48 : ((byteAt s (k) : Int) == 48) = false := by simp; omega
              have R0 := Lib.hid (Rows2.nil (B := w.heap.size + 1) (w := wr) HOWN.out)
              go_wp2_with (first | (go_at_call 37; refine (HN.out _).mono ?_; rintro e' w' ⟨rfl, rfl⟩) | (at_builtin; refine wpList_append_lies _ rfl (.tmp 76) (.tmp 78) 22 rfl (w.heap.size + 1) 3 i0 (.int .i64 0) 1 8 Tryd.underlying22 hi0 hz0 hz1 hz2 rfl (by decide) _ _ _ rfl (R0.out.oa.alloc _) ⟨wr.heap.size, 0, none⟩ 1 1 [.int .i64 v] rfl rfl ?_ ?_ (by decide) ?_ ?_ ?_ (wr.heap.size + 1) ?_ ?_))
              · exact cell_one_new _ _ _
              · intro u hu; simp at hu; subst hu; rfl
              · unfold maxLen; simp
              · simp
              · simp; omega
              · simp
              intro g cap w3 own3 g3 hat3 hl3
              have r3 := R0.out.push own3 g3 hat3
              have b3 := R0.out.below g3 hlt
              have R3 := Lib.hid r3
              have B3 := Lib.hid (HB.out.trans b3)
              have hlt3 : w.heap.size + 1 ≤ w3.heap.size := Nat.le_trans hlt b3.size
              clear own3 g3 hat3 r3 b3
              have c3 : w3.cell? ⟨g, 0, none⟩ = some (.int .i64 v) := by
                have := R3.out.oa.cells (g := g) rfl 0 (.int .i64 v) (by simp [natCells]); simpa [Addr.add] using this
              have HC3 := Lib.hid c3; clear c3
              by_cases he : k + m < s.size
              · have te : decide ((s.size : Int) ≤ (k : Int) + (m : Int)) = false := by simp; omega
                have hat := byteAt_eq s (k + m) he
                by_cases h45 : byteAt s (k + m) = 45
                · have t45 : ((byteAt s (k + m) : Int) != 45) = false := by simp; omega
                  go_wp2_with fail
                  go_roundg (s.size + 1 - (k + m + 1))
                  case measure => omega
                  case rel => exact ⟨k + m + 1, by omega, rfl, by go_num, by omega, B3.out, hlt3, .inr ⟨v, k + m, g, cap, rfl, he, h45, HNR.out, hv1, by omega, rfl, HC3.out, R3.out⟩⟩
                · have t45 : ((byteAt s (k + m) : Int) != 45) = true := by simp; omega
                  go_wp2_with fail
                  go_meet
                  exact ⟨v, v, k + m, [v], by go_num, by omega, by omega, Nat.le_refl _, hv1, item_one _ _ _ _ _ HNR.out (fun h => h45 h.2), .inl ⟨rfl, rfl⟩, B3.out, hlt3, R3.out⟩
              · have te : decide ((s.size : Int) ≤ (k : Int) + (m : Int)) = true := by simp; omega
                go_wp2_with fail
                go_meet
                exact ⟨v, v, k + m, [v], by go_num, by omega, by omega, Nat.le_refl _, hv1, item_one _ _ _ _ _ HNR.out (fun h => he h.1), .inl ⟨rfl, rfl⟩, B3.out, hlt3, R3.out⟩
          · have HNR1 := Lib.hid hnr; have R0 := Lib.hid hrows; clear hnr hrows
            rcases hcs with ⟨c1, c2, c9⟩ | ⟨c1, c2, c9⟩ | ⟨c1, c2, c3, c9⟩ | ⟨c1, hv1, c2, c3, c9⟩ | ⟨c1, hv1, c2, c9⟩ | ⟨c1, hv1, c2, c3, c9⟩
            · subst c2
              have tl : decide ((s.size : Int) ≤ ((e1 : Int) + 1)) = true := by simp; omega
              have tl2 : decide (s.size ≤ e1 + 1) = true := by simp; omega
              have hkl : (e1 + 1) = s.size := c1
              have it := item_err2 _ _ _ _ _ 22 HNR1.out ⟨he1, h45⟩ c9 (by decide)
              have hp := HP.out
              rw [parse_err _ _ fu _ k (e1 + 1) 22 it (by decide)] at hp
              have HP2 := Lib.hid hp; clear hp it
              rw [hkl] at HP2
              have HKL := Lib.hid hkl; clear hkl c1
              go_wp2_with (first | (go_at_call 37; refine (HN.out _).mono ?_; rintro e' w' ⟨rfl, rfl⟩) | (with_reducible (show wpList _ _ _ _ _ _); refine st_set rfl _ _ rfl _ _ rfl rfl _ K0.out (cellsOf_size _) ?_))
              refine res_set3 rfl _ _ rfl (setRow_heap _ _ _ _ _ _ K0.out) rfl ⟨by rw [← HP2.out] <;> rfl, ?_⟩
              exact below_setRow HBW.out (Nat.le_refl _) _
            · subst c2
              have tl : decide ((s.size : Int) ≤ ((e1 : Int) + 1)) = false := by simp; omega
              have tl2 : decide (s.size ≤ e1 + 1) = false := by simp; omega
              have it := item_err2 _ _ _ _ _ 20 HNR1.out ⟨he1, h45⟩ c9 (by decide)
              have hp := HP.out
              rw [parse_err _ _ fu _ k (e1 + 1) 20 it (by decide)] at hp
              have HP2 := Lib.hid hp; clear hp it
              go_wp2_with (first | (go_at_call 37; refine (HN.out _).mono ?_; rintro e' w' ⟨rfl, rfl⟩) | (with_reducible (show wpList _ _ _ _ _ _); refine st_set rfl _ _ rfl _ _ rfl rfl _ K0.out (cellsOf_size _) ?_))
              refine res_set3 rfl _ _ rfl (setRow_heap _ _ _ _ _ _ K0.out) rfl ⟨by rw [← HP2.out] <;> rfl, ?_⟩
              exact below_setRow HBW.out (Nat.le_refl _) _
            · have tm : ((m : Int) == 0) = false := by simp; omega
              have tv : decide ((1023 : Int) < (v : Int)) = true := by simp; omega
              have it := item_err2 _ _ _ _ _ 26 HNR1.out ⟨he1, h45⟩ c9 (by decide)
              have hp := HP.out
              rw [parse_err _ _ fu _ k (e1 + 1) 26 it (by decide)] at hp
              have HP2 := Lib.hid hp; clear hp it
              go_wp2_with (first | (go_at_call 37; refine (HN.out _).mono ?_; rintro e' w' ⟨rfl, rfl⟩) | (with_reducible (show wpList _ _ _ _ _ _); refine st_set rfl _ _ rfl _ _ rfl rfl _ K0.out (cellsOf_size _) ?_))
              refine res_set3 rfl _ _ rfl (setRow_heap _ _ _ _ _ _ K0.out) rfl ⟨by rw [← HP2.out] <;> rfl, ?_⟩
              exact below_setRow HBW.out (Nat.le_refl _) _
            · have tm : ((m : Int) == 0) = false := by simp; omega
              have tv : decide ((1023 : Int) < (v : Int)) = false := by simp; omega
              have t1 : decide ((1 : Int) < (m : Int)) = true := by simp; omega
              have hat0 := byteAt_eq s (e1 + 1) c1
              have t48 : ((byteAt s (e1 + 1) : Int) == 48) = true := by simp; omega
              have it := item_err2 _ _ _ _ _ 26 HNR1.out ⟨he1, h45⟩ c9 (by decide)
              have hp := HP.out
              rw [parse_err _ _ fu _ k (e1 + 1) 26 it (by decide)] at hp
              have HP2 := Lib.hid hp; clear hp it
              go_wp2_with (first | (go_at_call 37; refine (HN.out _).mono ?_; rintro e' w' ⟨rfl, rfl⟩) | (with_reducible (show wpList _ _ _ _ _ _); refine st_set rfl _ _ rfl _ _ rfl rfl _ K0.out (cellsOf_size _) ?_))
              refine res_set3 rfl _ _ rfl (setRow_heap _ _ _ _ _ _ K0.out) rfl ⟨by rw [← HP2.out] <;> rfl, ?_⟩
              exact below_setRow HBW.out (Nat.le_refl _) _
            · subst c2
              have HNR := Lib.hid c9; clear c9
              have tv : decide ((1023 : Int) < (v : Int)) = false := by simp; omega
              by_cases hfv : f ≤ v
              · have tf : decide ((v : Int) < (f : Int)) = false := by simp; omega
                go_wp2_with (first | (go_at_call 37; refine (HN.out _).mono ?_; rintro e' w' ⟨rfl, rfl⟩) | (at_builtin; refine wpList_append_lies _ rfl (.tmp 76) (.tmp 78) 22 rfl (w.heap.size + 1) 3 i0 (.int .i64 0) 1 8 Tryd.underlying22 hi0 hz0 hz1 hz2 rfl (by decide) _ _ _ rfl (R0.out.oa.alloc _) ⟨wr.heap.size, 0, none⟩ 1 1 [.int .i64 v] rfl rfl ?_ ?_ (by decide) ?_ ?_ ?_ (wr.heap.size + 1) ?_ ?_))
                · exact cell_one_new _ _ _
                · intro u hu; simp at hu; subst hu; rfl
                · unfold maxLen; simp
                · simp
                · simp; omega
                · simp
                intro g cap w3 own3 g3 hat3 hl3
                have r3 := R0.out.push own3 g3 hat3
                have b3 := R0.out.below g3 hlt
                have R3 := Lib.hid r3
                have B3 := Lib.hid (HB.out.trans b3)
                have hlt3 : w.heap.size + 1 ≤ w3.heap.size := Nat.le_trans hlt b3.size
                clear own3 g3 hat3 r3 b3
                go_wp2_with fail
                go_meet
                exact ⟨f, v, e1 + 1 + 1, [f, v], by go_num, by omega, by omega, hfv, hv1, item_two _ _ _ _ _ _ _ HNR1.out ⟨he1, h45⟩ HNR.out hfv, .inr rfl, B3.out, hlt3, R3.out⟩
              · have tf : decide ((v : Int) < (f : Int)) = true := by simp; omega
                have it := item_less _ _ _ _ _ _ _ HNR1.out ⟨he1, h45⟩ HNR.out (by omega)
                have hp := HP.out
                rw [parse_err _ _ fu _ k (e1 + 1) 26 it (by decide)] at hp
                have HP2 := Lib.hid hp; clear hp it
                go_wp2_with (first | (go_at_call 37; refine (HN.out _).mono ?_; rintro e' w' ⟨rfl, rfl⟩) | (with_reducible (show wpList _ _ _ _ _ _); refine st_set rfl _ _ rfl _ _ rfl rfl _ K0.out (cellsOf_size _) ?_))
                refine res_set3 rfl _ _ rfl (setRow_heap _ _ _ _ _ _ K0.out) rfl ⟨by rw [← HP2.out] <;> rfl, ?_⟩
                exact below_setRow HBW.out (Nat.le_refl _) _
            · have tm : ((m : Int) == 0) = false := by simp; omega
              have HNR := Lib.hid c9; clear c9
              have tv : decide ((1023 : Int) < (v : Int)) = false := by simp; omega
              have t1 : decide ((1 : Int) < (m : Int)) = true := by simp; omega
              have hat0 := byteAt_eq s (e1 + 1) c1
              have t48 : ((byteAt s (e1 + 1) : Int) == 48) = false := by simp; omega
              by_cases hfv : f ≤ v
              · have tf : decide ((v : Int) < (f : Int)) = false := by simp; omega
                go_wp2_with (first | (go_at_call 37; refine (HN.out _).mono ?_; rintro e' w' ⟨rfl, rfl⟩) | (at_builtin; refine wpList_append_lies _ rfl (.tmp 76) (.tmp 78) 22 rfl (w.heap.size + 1) 3 i0 (.int .i64 0) 1 8 Tryd.underlying22 hi0 hz0 hz1 hz2 rfl (by decide) _ _ _ rfl (R0.out.oa.alloc _) ⟨wr.heap.size, 0, none⟩ 1 1 [.int .i64 v] rfl rfl ?_ ?_ (by decide) ?_ ?_ ?_ (wr.heap.size + 1) ?_ ?_))
                · exact cell_one_new _ _ _
                · intro u hu; simp at hu; subst hu; rfl
                · unfold maxLen; simp
                · simp
                · simp; omega
                · simp
                intro g cap w3 own3 g3 hat3 hl3
                have r3 := R0.out.push own3 g3 hat3
                have b3 := R0.out.below g3 hlt
                have R3 := Lib.hid r3
                have B3 := Lib.hid (HB.out.trans b3)
                have hlt3 : w.heap.size + 1 ≤ w3.heap.size := Nat.le_trans hlt b3.size
                clear own3 g3 hat3 r3 b3
                go_wp2_with fail
                go_meet
                exact ⟨f, v, e1 + 1 + m, [f, v], by go_num, by omega, by omega, hfv, hv1, item_two _ _ _ _ _ _ _ HNR1.out ⟨he1, h45⟩ HNR.out hfv, .inr rfl, B3.out, hlt3, R3.out⟩
              · have tf : decide ((v : Int) < (f : Int)) = true := by simp; omega
                have it := item_less _ _ _ _ _ _ _ HNR1.out ⟨he1, h45⟩ HNR.out (by omega)
                have hp := HP.out
                rw [parse_err _ _ fu _ k (e1 + 1) 26 it (by decide)] at hp
                have HP2 := Lib.hid hp; clear hp it
                go_wp2_with (first | (go_at_call 37; refine (HN.out _).mono ?_; rintro e' w' ⟨rfl, rfl⟩) | (with_reducible (show wpList _ _ _ _ _ _); refine st_set rfl _ _ rfl _ _ rfl rfl _ K0.out (cellsOf_size _) ?_))
                refine res_set3 rfl _ _ rfl (setRow_heap _ _ _ _ _ _ K0.out) rfl ⟨by rw [← HP2.out] <;> rfl, ?_⟩
                exact below_setRow HBW.out (Nat.le_refl _) _
      case rest =>
        obtain ⟨f, t, e, el, rfl, hke, hel, hft, ht, hit, hel2, hb, hlt, hrows⟩ := hcut
        clear HJ
        obtain ⟨g, n, q, cap, rfl, hgl, hq1, hqn, hcf, hct⟩ := ends_form hrows hel2
        have h12 : n = 1 ∧ q = 0 ∨ n = 2 ∧ q = 1 := ends_two hrows hel2 hq1
        rcases h12 with ⟨rfl, rfl⟩ | ⟨rfl, rfl⟩
        · clear hqn
          obtain rfl : t = f := by have h := hcf.symm.trans hct; simp at h; omega
          have K0 := Lib.hid ((hb.block w.heap.size (by omega)).trans (heap_alloc_new w (.cells (cellsOf fun _ => false) 25)))
          have HBW := Lib.hid (show Below w.heap.size w wc from ((Below.refl _ _).alloc (Nat.le_refl _) _).trans (hb.mono (by omega)))
          have HB := Lib.hid hb; have HRW := Lib.hid hrows; have HEL := Lib.hid hel2
          clear hb hrows hel2
          by_cases hc44 : e < s.size ∧ byteAt s e ≠ 44
          · have it : itemR (byteAt s) s.size k = (0, 0, e, 20) := by rw [hit]; unfold tailR; rw [if_pos hc44]
            have hp := HP.out
            rw [parse_err _ _ fu _ k e 20 it (by decide)] at hp
            have HP2 := Lib.hid hp; clear hp it hit
            obtain ⟨h1, h2⟩ := hc44
            have hat := byteAt_eq s e h1
            have t1 : decide (e < s.size) = true := by simp; omega
            have t44 : ((byteAt s e : Int) != 44) = true := by simp; omega
            clear h2
            go_wp2_with (with_reducible (show wpList _ _ _ _ _ _); refine st_set rfl _ _ rfl _ _ rfl rfl _ K0.out (cellsOf_size _) ?_)
            refine res_set3 rfl _ _ rfl (setRow_heap _ _ _ _ _ _ K0.out) rfl ⟨by rw [← HP2.out] <;> rfl, ?_⟩
            exact below_setRow HBW.out (Nat.le_refl _) _
          · have it : itemR (byteAt s) s.size k = (t, t, e, 0) := by rw [hit]; unfold tailR; rw [if_neg hc44]
            have hp := HP.out
            rw [parseR, it] at hp
            simp only at hp
            rw [if_neg (by simp), ← mem_rng L t t hft] at hp
            have HP2 := Lib.hid hp; clear hp it hit HP
            go_upto_region 17 with fail
            go_cut [109] (fun c wx => c = .bool false ∧ wx = wc)
            case first =>
              by_cases h : e < s.size
              · have hat := byteAt_eq s e h
                have t1 : decide (e < s.size) = true := by simp; omega
                have t44 : ((byteAt s e : Int) != 44) = false := by simp; omega
                clear hc44
                go_wp2
                go_meet
                exact ⟨rfl, rfl⟩
              · have t1 : decide (e < s.size) = false := by simp; omega
                clear hc44
                go_wp2
                go_meet
                exact ⟨rfl, rfl⟩
            case rest =>
              obtain ⟨rfl, hwc⟩ := hcut
              subst hwc
              clear hc44
              go_wp2_with fail
              go_loopg [11] (t + 1 - t) (fun gg xv wx => ∃ x, t ≤ x ∧ x ≤ t + 1 ∧ gg = t + 1 - x ∧ xv = .int .i64 x ∧ (∀ y, t ≤ y → y < x → memP L y = false) ∧ Below wc.heap.size wc wx)
              case atStart => exact ⟨t, Nat.le_refl _, by omega, rfl, rfl, fun y a b => by omega, Below.refl _ _⟩
              case round =>
                obtain ⟨x, hfx, hxt, rfl, rfl, hno, hbx⟩ := hrel
                have HNO := Lib.hid hno; clear hno
                have c0 := (hbx.cell (p := ⟨g, 0, none⟩) hgl).trans hcf
                have ct := (hbx.cell (p := ⟨g, 0, none⟩) hgl).trans hct
                have rw1 := HRW.out.on hbx
                have il := Lib.hid (ints_of_own rw1.ob)
                have RW1 := Lib.hid rw1; clear rw1
                have hltx := Nat.le_trans hlt hbx.size
                have K1 := Lib.hid ((hbx.block w.heap.size (by omega)).trans K0.out)
                have HBX := Lib.hid hbx; clear hbx
                by_cases hx : x ≤ t
                · have dx : decide ((x : Int) ≤ (t : Int)) = true := by simp; omega
                  have mk : Hid (∀ W, IntsAt W u5 (fun i => ((L.getD i 0 : Nat) : Int)) L.length → Calls Tryd.prog 11 #[u5] W fun e w' => e = .returned (.agg (cellsOf (memP L))) ∧ Below W.heap.size W w') := fun W h => by
                    have := make_any _ _ u5 W (Nat.le_trans HT.out.le (by omega)) h; rw [cells_mem] at this; exact this
                  have hq := refHas_yes (memP L) x
                  have hx1024 : x < 1024 := by omega
                  cases hm : memP L x
                  · rw [hm] at hq
                    have HQ := Lib.hid hq; clear hq
                    have HM := Lib.hid hm; clear hm
                    go_wp2_with (first | (go_at_call 11; refine (mk.out _ il.out).mono ?_; rintro e' w5 ⟨rfl, h5⟩) | (go_at_call 15; refine (HQ.out _ hx1024).mono ?_; rintro e' w6 ⟨rfl, h6⟩))
                    go_roundg (t + 1 - (x + 1))
                    case measure => omega
                    case rel =>
                      refine ⟨x + 1, by omega, by omega, rfl, by go_num, fun y a b => ?_, HBX.out.trans ((h5.trans (h6.mono h5.size)).mono HBX.out.size)⟩
                      by_cases e2 : y = x
                      · subst e2; exact HM.out
                      · exact HNO.out y a (by omega)
                  · rw [hm] at hq
                    have HQ := Lib.hid hq; clear hq
                    have hany : (List.range 1024).any (fun n => memP L n && (decide (t ≤ n) && decide (n ≤ t))) = true := List.any_eq_true.2 ⟨x, by simpa using hx1024, by rw [hm]; simp; omega⟩
                    have hp := HP2.out
                    rw [if_pos hany] at hp
                    have HP3 := Lib.hid hp; clear hp hany hm
                    go_wp2_with (first | (go_at_call 11; refine (mk.out _ il.out).mono ?_; rintro e' w5 ⟨rfl, h5⟩) | (go_at_call 15; refine (HQ.out _ hx1024).mono ?_; rintro e' w6 ⟨rfl, h6⟩) | (with_reducible (show wpList _ _ _ _ _ _); refine st_set rfl _ _ rfl _ _ rfl rfl _ ((h6.block _ (by have := h5.size; omega)).trans ((h5.block _ (by omega)).trans K1.out)) (cellsOf_size _) ?_))
                    refine res_set3 rfl _ _ rfl (setRow_heap _ _ _ _ _ _ ((h6.block _ (by have := h5.size; omega)).trans ((h5.block _ (by omega)).trans K1.out))) rfl ⟨by rw [← HP3.out] <;> rfl, ?_⟩
                    exact below_setRow (HBW.out.trans ((HBX.out.trans ((h5.trans (h6.mono h5.size)).mono HBX.out.size)).mono (by omega))) (Nat.le_refl _) _
                · have dx : decide ((x : Int) ≤ (t : Int)) = false := by simp; omega
                  have dx2 : decide (x ≤ t) = false := by simp; omega
                  have hany : ¬ (List.range 1024).any (fun n => memP L n && (decide (t ≤ n) && decide (n ≤ t))) = true := by
                    intro h
                    obtain ⟨y, _, h2⟩ := List.any_eq_true.1 h
                    simp only [Bool.and_eq_true, decide_eq_true_eq] at h2
                    rw [HNO.out y h2.2.1 (by omega)] at h2
                    exact absurd h2.1 (by simp)
                  have hp := HP2.out
                  rw [if_neg hany] at hp
                  have HP3 := Lib.hid hp; clear hp hany
                  have hxt2 : t < x := by omega
                  clear hx
                  go_wp2_with fail
                  go_loopg [5, 12] (t + 1 - t) (fun gg lv yv wx => ∃ y, t ≤ y ∧ y ≤ t + 1 ∧ gg = t + 1 - y ∧ yv = .int .i64 y ∧ Below (w.heap.size + 1) (w.alloc (.cells (cellsOf fun _ => false) 25)) wx ∧ w.heap.size + 1 ≤ wx.heap.size ∧ Rows2 wx (w.heap.size + 1) lv (.slice (some ⟨g, 0, none⟩) 1 cap) (L ++ rng t (y - t)) el ∧ Thin (L ++ rng t (y - t)))
                  case atStart => exact ⟨t, Nat.le_refl _, by omega, rfl, rfl, HB.out.trans (HBX.out.mono hlt), hltx, by rw [Nat.sub_self]; simpa [rng] using RW1.out.swap, by rw [Nat.sub_self]; simpa [rng] using HT.out⟩
                  case round =>
                    obtain ⟨y, hfy, hyt, rfl, rfl, hby, hlty, hry, hty⟩ := hrel
                    obtain ⟨c0y, cty⟩ := ends_cells2 t t hry.ob (by first | exact HEL.out | simpa using HEL.out) hq1
                    have hle := hty.le
                    have RY := Lib.hid hry; have TY := Lib.hid hty; have BY := Lib.hid hby
                    clear hry hty hby c0 ct
                    by_cases hy : y ≤ t
                    · have dy : decide ((y : Int) ≤ (t : Int)) = true := by simp; omega
                      have hpush : Hid (L ++ rng t (y + 1 - t) = (L ++ rng t (y - t)) ++ [y]) := by
                        show _ = _
                        rw [show y + 1 - t = (y - t) + 1 by omega, rng_succ, show t + (y - t) = y by omega, List.append_assoc]
                      have hnot : memP (L ++ rng t (y - t)) y = false := by
                        have h1 := HNO.out y hfy (by omega)
                        simp only [memP, decide_eq_false_iff_not] at h1 ⊢
                        simp only [List.mem_append, not_or]
                        refine ⟨h1, ?_⟩
                        simp only [rng, List.mem_map, List.mem_range]
                        rintro ⟨a, h2, h3⟩
                        omega
                      have TP := Lib.hid (TY.out.push (show y < 1024 by omega) hnot)
                      clear hnot
                      generalize L ++ rng t (y - t) = M at *
                      go_wp2_with (at_builtin; refine wpList_append_lies _ rfl (.tmp 144) (.tmp 146) 22 rfl (w.heap.size + 1) 3 i0 (.int .i64 0) 1 8 Tryd.underlying22 hi0 hz0 hz1 hz2 rfl (by decide) _ _ _ rfl (RY.out.oa.alloc _) ⟨wr.heap.size, 0, none⟩ 1 1 [.int .i64 y] rfl rfl ?_ ?_ (by decide) ?_ ?_ ?_ (wr.heap.size + 1) ?_ ?_)
                      · exact cell_one_new _ _ _
                      · intro u hu; simp at hu; subst hu; rfl
                      · unfold maxLen; omega
                      · omega
                      · simp; omega
                      · simp
                      intro g7 cap7 w7 own7 g77 hat7 hl7
                      have r7 := RY.out.push own7 g77 hat7
                      have b7 := RY.out.below g77 hlty
                      have R7 := Lib.hid r7
                      have B7 := Lib.hid (BY.out.trans b7)
                      have hlt7 : w.heap.size + 1 ≤ w7.heap.size := Nat.le_trans hlty b7.size
                      clear own7 g77 hat7 r7 b7
                      go_wp2_with fail
                      go_roundg (t + 1 - (y + 1))
                      case measure => omega
                      case rel => exact ⟨y + 1, by omega, by omega, rfl, by go_num, B7.out, hlt7, by rw [hpush.out]; exact R7.out, by rw [hpush.out]; exact TP.out⟩
                    · obtain rfl : y = t + 1 := by omega
                      have dy : decide (((t + 1 : Nat) : Int) ≤ (t : Int)) = false := by simp; omega
                      have dy2 : decide ((t : Int) + 1 ≤ (t : Int)) = false := by simp; omega
                      clear hy
                      by_cases hend : e = s.size
                      · have hte : ((e : Int) == (s.size : Int)) = true := beqT hend
                        have hp := HP3.out
                        rw [if_pos hend] at hp
                        have HP4 := Lib.hid hp; clear hp
                        have HEND := Lib.hid hend; clear hend
                        have mk2 : Hid (∀ W, IntsAt W u5 (fun i => (((L ++ rng t (t + 1 - t)).getD i 0 : Nat) : Int)) (L ++ rng t (t + 1 - t)).length → Calls Tryd.prog 11 #[u5] W fun e w' => e = .returned (.agg (cellsOf (memP (L ++ rng t (t + 1 - t))))) ∧ Below W.heap.size W w') := fun W h => by
                          have := make_any _ _ u5 W (Nat.le_trans hle (by omega)) h; rw [cells_mem] at this; exact this
                        have il2 := Lib.hid (ints_of_own RY.out.oa)
                        have K2 := Lib.hid ((BY.out.block w.heap.size (by omega)).trans (heap_alloc_new w (.cells (cellsOf fun _ => false) 25)))
                        have BW2 := Lib.hid (show Below w.heap.size w wr from ((Below.refl _ _).alloc (Nat.le_refl _) _).trans (BY.out.mono (by omega)))
                        generalize L ++ rng t (t + 1 - t) = M at *
                        go_wp2_with (first | (go_at_call 11; refine (mk2.out _ il2.out).mono ?_; rintro e' w8 ⟨rfl, h8⟩) | (with_reducible (show wpList _ _ _ _ _ _); refine st_set rfl _ _ rfl _ _ rfl rfl _ ((h8.block _ (by omega)).trans K2.out) (cellsOf_size _) ?_))
                        refine res_set3 rfl _ _ rfl (setRow_heap _ _ _ _ _ _ ((h8.block _ (by omega)).trans K2.out)) rfl ⟨by rw [← HP4.out] <;> rfl, ?_⟩
                        exact below_setRow (BW2.out.trans (h8.mono (by omega))) (Nat.le_refl _) _
                      · have hte : ((e : Int) == (s.size : Int)) = false := beqF hend
                        have hp := HP3.out
                        rw [if_neg hend] at hp
                        have HP4 := Lib.hid hp; clear hp
                        go_wp2_with fail
                        go_roundg (s.size + 1 - (e + 1))
                        case measure => omega
                        case rel => exact ⟨e + 1, fu, _, by omega, rfl, by omega, by go_num, HP4.out, TY.out, BY.out, hlty, RY.out.oa⟩
        · clear hqn
          have K0 := Lib.hid ((hb.block w.heap.size (by omega)).trans (heap_alloc_new w (.cells (cellsOf fun _ => false) 25)))
          have HBW := Lib.hid (show Below w.heap.size w wc from ((Below.refl _ _).alloc (Nat.le_refl _) _).trans (hb.mono (by omega)))
          have HB := Lib.hid hb; have HRW := Lib.hid hrows; have HEL := Lib.hid hel2
          clear hb hrows hel2
          by_cases hc44 : e < s.size ∧ byteAt s e ≠ 44
          · have it : itemR (byteAt s) s.size k = (0, 0, e, 20) := by rw [hit]; unfold tailR; rw [if_pos hc44]
            have hp := HP.out
            rw [parse_err _ _ fu _ k e 20 it (by decide)] at hp
            have HP2 := Lib.hid hp; clear hp it hit
            obtain ⟨h1, h2⟩ := hc44
            have hat := byteAt_eq s e h1
            have t1 : decide (e < s.size) = true := by simp; omega
            have t44 : ((byteAt s e : Int) != 44) = true := by simp; omega
            clear h2
            go_wp2_with (with_reducible (show wpList _ _ _ _ _ _); refine st_set rfl _ _ rfl _ _ rfl rfl _ K0.out (cellsOf_size _) ?_)
            refine res_set3 rfl _ _ rfl (setRow_heap _ _ _ _ _ _ K0.out) rfl ⟨by rw [← HP2.out] <;> rfl, ?_⟩
            exact below_setRow HBW.out (Nat.le_refl _) _
          · have it : itemR (byteAt s) s.size k = (f, t, e, 0) := by rw [hit]; unfold tailR; rw [if_neg hc44]
            have hp := HP.out
            rw [parseR, it] at hp
            simp only at hp
            rw [if_neg (by simp), ← mem_rng L f t hft] at hp
            have HP2 := Lib.hid hp; clear hp it hit HP
            go_upto_region 17 with fail
            go_cut [109] (fun c wx => c = .bool false ∧ wx = wc)
            case first =>
              by_cases h : e < s.size
              · have hat := byteAt_eq s e h
                have t1 : decide (e < s.size) = true := by simp; omega
                have t44 : ((byteAt s e : Int) != 44) = false := by simp; omega
                clear hc44
                go_wp2
                go_meet
                exact ⟨rfl, rfl⟩
              · have t1 : decide (e < s.size) = false := by simp; omega
                clear hc44
                go_wp2
                go_meet
                exact ⟨rfl, rfl⟩
            case rest =>
              obtain ⟨rfl, hwc⟩ := hcut
              subst hwc
              clear hc44
              go_wp2_with fail
              go_loopg [11] (t + 1 - f) (fun gg xv wx => ∃ x, f ≤ x ∧ x ≤ t + 1 ∧ gg = t + 1 - x ∧ xv = .int .i64 x ∧ (∀ y, f ≤ y → y < x → memP L y = false) ∧ Below wc.heap.size wc wx)
              case atStart => exact ⟨f, Nat.le_refl _, by omega, rfl, rfl, fun y a b => by omega, Below.refl _ _⟩
              case round =>
                obtain ⟨x, hfx, hxt, rfl, rfl, hno, hbx⟩ := hrel
                have HNO := Lib.hid hno; clear hno
                have c0 := (hbx.cell (p := ⟨g, 0, none⟩) hgl).trans hcf
                have ct := (hbx.cell (p := ⟨g, 1, none⟩) hgl).trans hct
                have rw1 := HRW.out.on hbx
                have il := Lib.hid (ints_of_own rw1.ob)
                have RW1 := Lib.hid rw1; clear rw1
                have hltx := Nat.le_trans hlt hbx.size
                have K1 := Lib.hid ((hbx.block w.heap.size (by omega)).trans K0.out)
                have HBX := Lib.hid hbx; clear hbx
                by_cases hx : x ≤ t
                · have dx : decide ((x : Int) ≤ (t : Int)) = true := by simp; omega
                  have mk : Hid (∀ W, IntsAt W u5 (fun i => ((L.getD i 0 : Nat) : Int)) L.length → Calls Tryd.prog 11 #[u5] W fun e w' => e = .returned (.agg (cellsOf (memP L))) ∧ Below W.heap.size W w') := fun W h => by
                    have := make_any _ _ u5 W (Nat.le_trans HT.out.le (by omega)) h; rw [cells_mem] at this; exact this
                  have hq := refHas_yes (memP L) x
                  have hx1024 : x < 1024 := by omega
                  cases hm : memP L x
                  · rw [hm] at hq
                    have HQ := Lib.hid hq; clear hq
                    have HM := Lib.hid hm; clear hm
                    go_wp2_with (first | (go_at_call 11; refine (mk.out _ il.out).mono ?_; rintro e' w5 ⟨rfl, h5⟩) | (go_at_call 15; refine (HQ.out _ hx1024).mono ?_; rintro e' w6 ⟨rfl, h6⟩))
                    go_roundg (t + 1 - (x + 1))
                    case measure => omega
                    case rel =>
                      refine ⟨x + 1, by omega, by omega, rfl, by go_num, fun y a b => ?_, HBX.out.trans ((h5.trans (h6.mono h5.size)).mono HBX.out.size)⟩
                      by_cases e2 : y = x
                      · subst e2; exact HM.out
                      · exact HNO.out y a (by omega)
                  · rw [hm] at hq
                    have HQ := Lib.hid hq; clear hq
                    have hany : (List.range 1024).any (fun n => memP L n && (decide (f ≤ n) && decide (n ≤ t))) = true := List.any_eq_true.2 ⟨x, by simpa using hx1024, by rw [hm]; simp; omega⟩
                    have hp := HP2.out
                    rw [if_pos hany] at hp
                    have HP3 := Lib.hid hp; clear hp hany hm
                    go_wp2_with (first | (go_at_call 11; refine (mk.out _ il.out).mono ?_; rintro e' w5 ⟨rfl, h5⟩) | (go_at_call 15; refine (HQ.out _ hx1024).mono ?_; rintro e' w6 ⟨rfl, h6⟩) | (with_reducible (show wpList _ _ _ _ _ _); refine st_set rfl _ _ rfl _ _ rfl rfl _ ((h6.block _ (by have := h5.size; omega)).trans ((h5.block _ (by omega)).trans K1.out)) (cellsOf_size _) ?_))
                    refine res_set3 rfl _ _ rfl (setRow_heap _ _ _ _ _ _ ((h6.block _ (by have := h5.size; omega)).trans ((h5.block _ (by omega)).trans K1.out))) rfl ⟨by rw [← HP3.out] <;> rfl, ?_⟩
                    exact below_setRow (HBW.out.trans ((HBX.out.trans ((h5.trans (h6.mono h5.size)).mono HBX.out.size)).mono (by omega))) (Nat.le_refl _) _
                · have dx : decide ((x : Int) ≤ (t : Int)) = false := by simp; omega
                  have dx2 : decide (x ≤ t) = false := by simp; omega
                  have hany : ¬ (List.range 1024).any (fun n => memP L n && (decide (f ≤ n) && decide (n ≤ t))) = true := by
                    intro h
                    obtain ⟨y, _, h2⟩ := List.any_eq_true.1 h
                    simp only [Bool.and_eq_true, decide_eq_true_eq] at h2
                    rw [HNO.out y h2.2.1 (by omega)] at h2
                    exact absurd h2.1 (by simp)
                  have hp := HP2.out
                  rw [if_neg hany] at hp
                  have HP3 := Lib.hid hp; clear hp hany
                  have hxt2 : t < x := by omega
                  clear hx
                  go_wp2_with fail
                  go_loopg [5, 12] (t + 1 - f) (fun gg lv yv wx => ∃ y, f ≤ y ∧ y ≤ t + 1 ∧ gg = t + 1 - y ∧ yv = .int .i64 y ∧ Below (w.heap.size + 1) (w.alloc (.cells (cellsOf fun _ => false) 25)) wx ∧ w.heap.size + 1 ≤ wx.heap.size ∧ Rows2 wx (w.heap.size + 1) lv (.slice (some ⟨g, 0, none⟩) 2 cap) (L ++ rng f (y - f)) el ∧ Thin (L ++ rng f (y - f)))
                  case atStart => exact ⟨f, Nat.le_refl _, by omega, rfl, rfl, HB.out.trans (HBX.out.mono hlt), hltx, by rw [Nat.sub_self]; simpa [rng] using RW1.out.swap, by rw [Nat.sub_self]; simpa [rng] using HT.out⟩
                  case round =>
                    obtain ⟨y, hfy, hyt, rfl, rfl, hby, hlty, hry, hty⟩ := hrel
                    obtain ⟨c0y, cty⟩ := ends_cells2 f t hry.ob (by first | exact HEL.out | simpa using HEL.out) hq1
                    have hle := hty.le
                    have RY := Lib.hid hry; have TY := Lib.hid hty; have BY := Lib.hid hby
                    clear hry hty hby c0 ct
                    by_cases hy : y ≤ t
                    · have dy : decide ((y : Int) ≤ (t : Int)) = true := by simp; omega
                      have hpush : Hid (L ++ rng f (y + 1 - f) = (L ++ rng f (y - f)) ++ [y]) := by
                        show _ = _
                        rw [show y + 1 - f = (y - f) + 1 by omega, rng_succ, show f + (y - f) = y by omega, List.append_assoc]
                      have hnot : memP (L ++ rng f (y - f)) y = false := by
                        have h1 := HNO.out y hfy (by omega)
                        simp only [memP, decide_eq_false_iff_not] at h1 ⊢
                        simp only [List.mem_append, not_or]
                        refine ⟨h1, ?_⟩
                        simp only [rng, List.mem_map, List.mem_range]
                        rintro ⟨a, h2, h3⟩
                        omega
                      have TP := Lib.hid (TY.out.push (show y < 1024 by omega) hnot)
                      clear hnot
                      generalize L ++ rng f (y - f) = M at *
                      go_wp2_with (at_builtin; refine wpList_append_lies _ rfl (.tmp 144) (.tmp 146) 22 rfl (w.heap.size + 1) 3 i0 (.int .i64 0) 1 8 Tryd.underlying22 hi0 hz0 hz1 hz2 rfl (by decide) _ _ _ rfl (RY.out.oa.alloc _) ⟨wr.heap.size, 0, none⟩ 1 1 [.int .i64 y] rfl rfl ?_ ?_ (by decide) ?_ ?_ ?_ (wr.heap.size + 1) ?_ ?_)
                      · exact cell_one_new _ _ _
                      · intro u hu; simp at hu; subst hu; rfl
                      · unfold maxLen; omega
                      · omega
                      · simp; omega
                      · simp
                      intro g7 cap7 w7 own7 g77 hat7 hl7
                      have r7 := RY.out.push own7 g77 hat7
                      have b7 := RY.out.below g77 hlty
                      have R7 := Lib.hid r7
                      have B7 := Lib.hid (BY.out.trans b7)
                      have hlt7 : w.heap.size + 1 ≤ w7.heap.size := Nat.le_trans hlty b7.size
                      clear own7 g77 hat7 r7 b7
                      go_wp2_with fail
                      go_roundg (t + 1 - (y + 1))
                      case measure => omega
                      case rel => exact ⟨y + 1, by omega, by omega, rfl, by go_num, B7.out, hlt7, by rw [hpush.out]; exact R7.out, by rw [hpush.out]; exact TP.out⟩
                    · obtain rfl : y = t + 1 := by omega
                      have dy : decide (((t + 1 : Nat) : Int) ≤ (t : Int)) = false := by simp; omega
                      have dy2 : decide ((t : Int) + 1 ≤ (t : Int)) = false := by simp; omega
                      clear hy
                      by_cases hend : e = s.size
                      · have hte : ((e : Int) == (s.size : Int)) = true := beqT hend
                        have hp := HP3.out
                        rw [if_pos hend] at hp
                        have HP4 := Lib.hid hp; clear hp
                        have HEND := Lib.hid hend; clear hend
                        have mk2 : Hid (∀ W, IntsAt W u5 (fun i => (((L ++ rng f (t + 1 - f)).getD i 0 : Nat) : Int)) (L ++ rng f (t + 1 - f)).length → Calls Tryd.prog 11 #[u5] W fun e w' => e = .returned (.agg (cellsOf (memP (L ++ rng f (t + 1 - f))))) ∧ Below W.heap.size W w') := fun W h => by
                          have := make_any _ _ u5 W (Nat.le_trans hle (by omega)) h; rw [cells_mem] at this; exact this
                        have il2 := Lib.hid (ints_of_own RY.out.oa)
                        have K2 := Lib.hid ((BY.out.block w.heap.size (by omega)).trans (heap_alloc_new w (.cells (cellsOf fun _ => false) 25)))
                        have BW2 := Lib.hid (show Below w.heap.size w wr from ((Below.refl _ _).alloc (Nat.le_refl _) _).trans (BY.out.mono (by omega)))
                        generalize L ++ rng f (t + 1 - f) = M at *
                        go_wp2_with (first | (go_at_call 11; refine (mk2.out _ il2.out).mono ?_; rintro e' w8 ⟨rfl, h8⟩) | (with_reducible (show wpList _ _ _ _ _ _); refine st_set rfl _ _ rfl _ _ rfl rfl _ ((h8.block _ (by omega)).trans K2.out) (cellsOf_size _) ?_))
                        refine res_set3 rfl _ _ rfl (setRow_heap _ _ _ _ _ _ ((h8.block _ (by omega)).trans K2.out)) rfl ⟨by rw [← HP4.out] <;> rfl, ?_⟩
                        exact below_setRow (BW2.out.trans (h8.mono (by omega))) (Nat.le_refl _) _
                      · have hte : ((e : Int) == (s.size : Int)) = false := beqF hend
                        have hp := HP3.out
                        rw [if_neg hend] at hp
                        have HP4 := Lib.hid hp; clear hp
                        go_wp2_with fail
                        go_roundg (s.size + 1 - (e + 1))
                        case measure => omega
                        case rel => exact ⟨e + 1, fu, _, by omega, rfl, by omega, by go_num, HP4.out, TY.out, BY.out, hlty, RY.out.oa⟩
end Go.Proofs.YtaljhmpaccldcaaDoor
