/- A row of events played in two parts: plain facts (layer 19). -/
import Derived.Test.YtdelddkpbdnckaaDoorKx
import Derived.Test.YtdelddkpbdnckaaDoorLd
import Derived.Test.YtdelddkpbdnckaaDoorLa
namespace Go.Proofs.YtdelddkpbdnckaaDoor
open Go.RowKit

theorem playP_some {ps : List PR} {f g : Fl} {e : EvP} (h : turnP f ps e = some g) (l : List EvP) (k : Nat) : playP ps f (e :: l) k = playP ps g l (k + 1) := by
  show (match turnP f ps e with | some g => playP ps g l (k + 1) | none => (f, (k : Int))) = _
  rw [h]
theorem playP_none {ps : List PR} {f : Fl} {e : EvP} (h : turnP f ps e = none) (l : List EvP) (k : Nat) : playP ps f (e :: l) k = (f, (k : Int)) := by
  show (match turnP f ps e with | some g => playP ps g l (k + 1) | none => (f, (k : Int))) = _
  rw [h]
theorem playP_val (ps : List PR) : ∀ (l : List EvP) (f : Fl) (j : Nat), (playP ps f l j).2 = -1 ∨ ((j : Int) ≤ (playP ps f l j).2 ∧ (playP ps f l j).2 < (j : Int) + (l.length : Int))
  | [], f, j => .inl rfl
  | e :: l, f, j => by
    cases h : turnP f ps e with
    | none => rw [playP_none h]; right; simp; omega
    | some g =>
      have := playP_val ps l g (j + 1)
      rw [playP_some h]
      simp only [List.length_cons]
      omega
theorem playP_shift (ps : List PR) : ∀ (l : List EvP) (f : Fl) (j i : Nat), (playP ps f l (j + i)).1 = (playP ps f l j).1 ∧ ((playP ps f l j).2 = -1 → (playP ps f l (j + i)).2 = -1) ∧ ((playP ps f l j).2 ≠ -1 → (playP ps f l (j + i)).2 = (playP ps f l j).2 + (i : Int))
  | [], f, j, i => ⟨rfl, fun _ => rfl, fun h => absurd rfl h⟩
  | e :: l, f, j, i => by
    cases h : turnP f ps e with
    | none => rw [playP_none h, playP_none h]; exact ⟨rfl, fun q => by have : (j : Int) = -1 := q; omega, fun _ => by simp⟩
    | some g =>
      rw [playP_some h, playP_some h]
      have := playP_shift ps l g (j + 1) i
      rw [show j + 1 + i = j + i + 1 by omega] at this
      exact this
theorem playP_app (ps : List PR) : ∀ (l l' : List EvP) (f : Fl) (j : Nat), playP ps f (l ++ l') j = if (playP ps f l j).2 = -1 then playP ps (playP ps f l j).1 l' (j + l.length) else playP ps f l j
  | [], l', f, j => by
    show playP ps f l' j = if ((f, (-1 : Int)) : Fl × Int).2 = -1 then playP ps f l' (j + 0) else (f, -1)
    rw [if_pos rfl, Nat.add_zero]
  | e :: l, l', f, j => by
    rw [List.cons_append]
    cases h : turnP f ps e with
    | none =>
      rw [playP_none h, playP_none h, if_neg (by show (j : Int) ≠ -1; omega)]
    | some g =>
      rw [playP_some h, playP_some h, playP_app ps l l' g (j + 1), List.length_cons, show j + 1 + l.length = j + (l.length + 1) by omega]
theorem playP_len (ps : List PR) : ∀ (l : List EvP) (f : Fl) (j : Nat), (∀ e ∈ l, In64F e.a) → In64F f.tm → (playP ps f l j).1.ts.length ≤ f.ts.length + l.length ∧ (playP ps f l j).1.ow.length = f.ow.length ∧ In64F (playP ps f l j).1.tm
  | [], f, j, _, ht => ⟨Nat.le_refl _, rfl, ht⟩
  | e :: l, f, j, he, ht => by
    cases h : turnP f ps e with
    | none => rw [playP_none h]; exact ⟨by simp, rfl, ht⟩
    | some g =>
      rw [playP_some h]
      obtain ⟨a, b, c⟩ := turnP_len h
      obtain ⟨x, y, z⟩ := playP_len ps l g (j + 1) (fun e' h' => he e' (by simp [h'])) (c ht (he e (by simp)))
      exact ⟨by simp only [List.length_cons]; omega, by omega, z⟩
/-- Played in two parts. -/
theorem play_split (ps : List PR) (f : Fl) (l : List EvP) (k : Nat) (hk : k ≤ l.length) :
    ((playP ps f (l.take k) 0).2 ≠ -1 → playP ps f l 0 = playP ps f (l.take k) 0) ∧
    ((playP ps f (l.take k) 0).2 = -1 → (playP ps f l 0).1 = (playP ps (playP ps f (l.take k) 0).1 (l.drop k) 0).1 ∧ (playP ps f l 0).2 = if 0 ≤ (playP ps (playP ps f (l.take k) 0).1 (l.drop k) 0).2 then (playP ps (playP ps f (l.take k) 0).1 (l.drop k) 0).2 + k else (playP ps (playP ps f (l.take k) 0).1 (l.drop k) 0).2) := by
  have h := playP_app ps (l.take k) (l.drop k) f 0
  rw [List.take_append_drop] at h
  have hl : (l.take k).length = k := by simp; omega
  constructor
  · intro q; rw [h, if_neg q]
  · intro q
    rw [if_pos q, hl] at h
    obtain ⟨a, b, c⟩ := playP_shift ps (l.drop k) (playP ps f (l.take k) 0).1 0 k
    have v := playP_val ps (l.drop k) (playP ps f (l.take k) 0).1 0
    rw [h]
    refine ⟨a, ?_⟩
    by_cases z : (playP ps (playP ps f (l.take k) 0).1 (l.drop k) 0).2 = -1
    · rw [b z, z, if_neg (by omega)]
    · rw [c z, if_pos (by omega)]
theorem EvIn.take {w : World} {A : Option Addr} {l : List EvP} (h : EvIn w A l) (k : Nat) : EvIn w A (l.take k) := fun i e he => h i e (by
  rw [List.getElem?_take] at he
  split at he
  · exact he
  · cases he)
theorem EvIn.ok {w : World} {A : Option Addr} {l : List EvP} (h : EvIn w A l) : ∀ e ∈ l, In64F e.a := fun e he => by
  obtain ⟨i, hi⟩ := List.mem_iff_getElem?.1 he
  exact (h i e hi).1.a
theorem EvIn.drop {w : World} {b off : Nat} {l : List EvP} (h : EvIn w (some ⟨b, off, none⟩) l) (k : Nat) : EvIn w (some ⟨b, off + k * 5, none⟩) (l.drop k) := fun i e he => by
  rw [List.getElem?_drop] at he
  obtain ⟨ok, b', off', ea, hlt, c0, c1, c2, c3, c4⟩ := h (k + i) e he
  simp only [Option.some.injEq, Addr.mk.injEq, and_true] at ea
  obtain ⟨rfl, rfl⟩ := ea
  have e5 : off + (k + i) * 5 = off + k * 5 + i * 5 := by omega
  rw [e5] at c0 c1 c2 c3 c4
  exact ⟨ok, b, off + k * 5, rfl, hlt, c0, c1, c2, c3, c4⟩

set_option maxRecDepth 100000

theorem ld_flatg {F O : Value} {p : Nat → Bool} {t : Int} {w : World} {ops : Array Oper} {rest : List Oper} {o : Oper} {a : Act} {Q : Exit → Act → World → Prop} (hgd : Region.wanted o (yielded ops a.tmps) = true) (x : Operand) (ho : o.op = .load 30 x)
    (g : Nat) (hx : a.eval x = .pointer (some ⟨g, 0, none⟩)) (hb : BF w g F O p t) (h : wpList Tryd.prog ops Q rest (a.put o.dst (flV F O p t)) w) : wpList Tryd.prog ops Q (o :: rest) a w :=
  BigFrame.wpList_want hgd fun _ hK => wp_load_mid 30 x ho g 0 hx (flL F O p t) _ hb.all under30 rfl (by rw [infoFlat, flL_len]) (hK _ _ h)
theorem loadF_halt {w : World} {ops : Array Oper} {rest : List Oper} {op : Oper} {a : Act} {Q : Exit → Act → World → Prop} {g : Nat × Bool} (_ : op.guard = some g) (x : Operand) (_ : op.op = .load 30 x) (h : Hid (wpList Tryd.prog ops Q (op :: rest) a w)) : wpList Tryd.prog ops Q (op :: rest) a w := h.out
def spP : Nat → Bool := ofP (fun i => (i : Int)) 4
def spF : Fl := ⟨[], spP, [-1, -1, -1], 0⟩
section
variable {w : World} {B : Nat} {PA : Option Addr} {ps : List PR}
set_option maxHeartbeats 16000000 in
theorem splits_any (hG : Gnd w B PA ps) (pcap : Nat) (EA : Option Addr) (evs : List EvP) (ecap u : Nat) (hE : EvIn w EA evs) (hu : u < 18446744073709551616) (hcap : evs.length ≤ ecap) :
    Calls Tryd.prog 5 #[.slice PA ps.length pcap, .slice EA evs.length ecap, .int .u64 u] w (GotB w.heap.size (.bool true) w) := by
  have HG := Lib.hid hG
  obtain ⟨l, hl⟩ : ∃ l, evs.take 60 = l := ⟨_, rfl⟩
  have hEl : EvIn w EA l := by rw [← hl]; exact hE.take 60
  obtain ⟨m, hm⟩ : ∃ m, l.length = m := ⟨_, rfl⟩
  have hm60 : m ≤ 60 := by rw [← hm, ← hl, List.length_take]; omega
  have hmin : min (evs.length : Int) 60 = (m : Int) := by rw [← hm, ← hl, List.length_take]; omega
  have hmn : m ≤ evs.length := by rw [← hm, ← hl, List.length_take]; omega
  have HEL := Lib.hid hEl; have HM := Lib.hid hm; have HMIN := Lib.hid hmin
  obtain ⟨n, hnn⟩ : ∃ n, evs.length = n := ⟨_, rfl⟩
  rw [hnn] at hmn hmin hcap ⊢
  clear hG hE hEl hl hm hnn
  have i0 : (0 : Int) ≤ (m : Int) := by omega
  have i1 : (m : Int) ≤ (n : Int) := by omega
  have i2 : m ≤ ecap := by omega
  have i3 : (m : Int) ≤ (ecap : Int) := by omega
  go_enter Tryd.func5, Tryd.ntmps5
  go_upto_region 2 with fail
  have HMK : Hid (Calls Tryd.prog 15 #[.slice (some ⟨w.heap.size, 0, none⟩) 4 4] (w.alloc (.cells #[.int .i64 0, .int .i64 1, .int .i64 2, .int .i64 3] 3)) fun e w' => e = .returned (.agg (cellsOf spP)) ∧ Below (w.alloc (.cells #[.int .i64 0, .int .i64 1, .int .i64 2, .int .i64 3] 3)).heap.size (w.alloc (.cells #[.int .i64 0, .int .i64 1, .int .i64 2, .int .i64 3] 3)) w') :=
    make_any (fun i => (i : Int)) 4 _ _ (by omega) ⟨some ⟨w.heap.size, 0, none⟩, 4, rfl, .inr ⟨w.heap.size, 0, rfl, (Blk.new w 3 #[.int .i64 0, .int .i64 1, .int .i64 2, .int .i64 3]).lt, fun i hi => by
      have hk := Blk.new w 3 #[.int .i64 0, .int .i64 1, .int .i64 2, .int .i64 3]
      match i, hi with
      | 0, _ => exact hk.cell 0
      | 1, _ => exact hk.cell 1
      | 2, _ => exact hk.cell 2
      | 3, _ => exact hk.cell 3⟩⟩
  have HNW : Hid (∀ X, Calls Tryd.prog 6 #[.agg (cellsOf spP), .int .i64 3] X (AneG X spP 0 [] [-1, -1, -1])) := fun X => new_any spP 3 (by omega) X
  have HB0 : Hid (Below w.heap.size w (w.alloc (.cells #[.int .i64 0, .int .i64 1, .int .i64 2, .int .i64 3] 3))) := (Below.refl _ _).alloc (Nat.le_refl _) _
  go_upto_region 3 with (first
    | (go_at_call 15; (with_reducible refine HMK.out.mono ?_); rintro e w1 ⟨rfl, h1⟩; have HB1 := Lib.hid (HB0.out.trans (h1.mono HB0.out.size)); clear h1)
    | (go_at_call 6; (with_reducible refine (HNW.out _).mono ?_); rintro e w2 ⟨F, O, rfl, h2, hb2⟩; have HB2 := Lib.hid (HB1.out.trans (hb2.mono HB1.out.size)); have H2 := Lib.hid h2; obtain ⟨A0, k0, rfl, -⟩ := own_tsIn h2.tk; obtain ⟨A1, k1, rfl, -⟩ := own_numsIn h2.ow; clear h2 hb2)
    | (with_reducible (show wpList _ _ _ _ _ _); refine st_flat rfl (.tmp 7) (.tmp 22) rfl w2.heap.size rfl rfl rfl rfl _ (Blk.new w2 _ _) rfl ?_))
  have HBF : Hid (BF ((w2.alloc (.cells #[.slice none 0 0, .int .u64 0, .int .u64 0, .int .u64 0, .int .u64 0, .int .u64 0, .int .u64 0, .int .u64 0, .int .u64 0, .int .u64 0, .int .u64 0, .int .u64 0, .int .u64 0, .int .u64 0, .int .u64 0, .int .u64 0, .int .u64 0, .slice none 0 0, .int .i64 0] 30)).setRow w2.heap.size (flL (.slice A0 0 k0) (.slice A1 3 k1) spP 0).toArray) w2.heap.size (.slice A0 0 k0) (.slice A1 3 k1) spP 0) := BF.row (Blk.new w2 _ _)
  have HOW : Hid (OwnF ((w2.alloc (.cells #[.slice none 0 0, .int .u64 0, .int .u64 0, .int .u64 0, .int .u64 0, .int .u64 0, .int .u64 0, .int .u64 0, .int .u64 0, .int .u64 0, .int .u64 0, .int .u64 0, .int .u64 0, .int .u64 0, .int .u64 0, .int .u64 0, .int .u64 0, .slice none 0 0, .int .i64 0] 30)).setRow w2.heap.size (flL (.slice A0 0 k0) (.slice A1 3 k1) spP 0).toArray) w1.heap.size (.slice A0 0 k0) (.slice A1 3 k1) [] [-1, -1, -1]) := (H2.out.below ((Below.refl _ _).alloc (Nat.le_refl _) _)).row _ _ fun k hk => by have := (H2.out.lt hk).2; omega
  have HBB : Hid (Below w.heap.size w ((w2.alloc (.cells #[.slice none 0 0, .int .u64 0, .int .u64 0, .int .u64 0, .int .u64 0, .int .u64 0, .int .u64 0, .int .u64 0, .int .u64 0, .int .u64 0, .int .u64 0, .int .u64 0, .int .u64 0, .int .u64 0, .int .u64 0, .int .u64 0, .int .u64 0, .slice none 0 0, .int .i64 0] 30)).setRow w2.heap.size (flL (.slice A0 0 k0) (.slice A1 3 k1) spP 0).toArray)) := (((But.of_below (X := fun k => w.heap.size ≤ k) HB2.out).alloc _).row _ _ (.inr HB2.out.size)).below (Nat.le_refl _) fun k _ q => q
  generalize (w2.alloc (.cells #[.slice none 0 0, .int .u64 0, .int .u64 0, .int .u64 0, .int .u64 0, .int .u64 0, .int .u64 0, .int .u64 0, .int .u64 0, .int .u64 0, .int .u64 0, .int .u64 0, .int .u64 0, .int .u64 0, .int .u64 0, .int .u64 0, .int .u64 0, .slice none 0 0, .int .i64 0] 30)).setRow w2.heap.size (flL (.slice A0 0 k0) (.slice A1 3 k1) spP 0).toArray = W1 at *
  generalize w2.heap.size = b7 at *
  clear HB2 HB1 HB0 H2 HMK HNW
  have HLV : Hid (∀ X, Below w.heap.size w X → Calls Tryd.prog 9 #[] X (GotB X.heap.size (.bool true) X)) := fun X hX => lives19_any (HG.out.below (hX.mono HG.out.le))
  obtain ⟨lt, hlt⟩ : ∃ b, lightP 0 3 ps = b := ⟨_, rfl⟩
  have HLT := Lib.hid hlt
  have HLI : Hid (Calls Tryd.prog 7 #[flV (.slice A0 0 k0) (.slice A1 3 k1) spP 0, .slice PA ps.length pcap] W1 (GotB W1.heap.size (.bool lt) W1)) := by
    rw [← hlt]; exact light_any A0 A1 0 3 k0 k1 pcap (HG.out.below (HBB.out.mono HG.out.le))
  clear hlt
  cases lt with
  | false =>
    go_wp2_with (first
      | (with_reducible (show wpList _ _ _ _ _ _); refine ld_flat rfl (.tmp 7) rfl b7 rfl HBF.out ?_)
      | (go_at_call 7; (with_reducible refine HLI.out.mono ?_); rintro e w3 ⟨rfl, h3⟩; have HB3 := Lib.hid (HBB.out.trans (h3.mono HBB.out.size)); have HLV3 := Lib.hid (HLV.out _ HB3.out); clear h3)
      | (go_at_call 9; (with_reducible refine HLV3.out.mono ?_); rintro e w4 ⟨rfl, h4⟩; have HB4 := Lib.hid (HB3.out.trans (h4.mono HB3.out.size)); clear h4))
    go_ret
    exact ⟨rfl, HB4.out⟩
  | true =>
    have u0 : (0 : Int) ≤ (u : Int) := by omega
    obtain ⟨k, hk⟩ : ∃ k, u % (m + 1) = k := ⟨_, rfl⟩
    have hkm : k ≤ m := by have := Nat.mod_lt u (show 0 < m + 1 by omega); rw [hk] at this; omega
    have hki : (u : Int) % ((m : Int) + 1) = (k : Int) := by rw [← hk]; push_cast; rfl
    have hkw : wrap64 (k : Int) = (k : Int) := by unfold wrap64; omega
    have HKM := Lib.hid hkm
    clear hk
    go_upto_region 6 with (first
      | (with_reducible (show wpList _ _ _ _ _ _); refine ld_flat rfl (.tmp 7) rfl b7 rfl HBF.out ?_)
      | (go_at_call 7; (with_reducible refine HLI.out.mono ?_); rintro e w3 ⟨rfl, h3⟩; have HB3 := Lib.hid (HBB.out.trans (h3.mono HBB.out.size)); have HBF3 := Lib.hid (Blk.below HBF.out h3 (Blk.lt HBF.out)); have HOW3 := Lib.hid (HOW.out.below h3); clear h3))
    clear HBF HOW HBB HLI hki hkw u0
    obtain ⟨fa, xa, hra⟩ : ∃ fa xa, playP ps spF (l.take k) 0 = (fa, xa) := ⟨_, _, rfl⟩
    obtain ⟨fb, yb, hrb⟩ : ∃ fb yb, playP ps spF l 0 = (fb, yb) := ⟨_, _, rfl⟩
    have hev := HEL.out.ok
    have hlk : (l.take k).length = k := by rw [List.length_take, HM.out]; omega
    have hla := playP_len ps (l.take k) spF 0 (fun e he => hev e (List.mem_of_mem_take he)) (by unfold In64F; decide)
    have hlb := playP_len ps l spF 0 hev (by unfold In64F; decide)
    have hva := playP_val ps (l.take k) spF 0
    have hsp := play_split ps spF l k (by rw [HM.out]; exact HKM.out)
    rw [hra] at hla hva hsp
    rw [hrb] at hlb hsp
    rw [hlk] at hla
    rw [HM.out] at hlb
    have hfa : fa.ts.length ≤ 60 ∧ fa.ow.length = 3 ∧ In64F fa.tm := ⟨Nat.le_trans hla.1 (by show 0 + k ≤ 60; have := HKM.out; omega), hla.2.1, hla.2.2⟩
    have hfb : fb.ts.length ≤ 60 ∧ fb.ow.length = 3 := ⟨Nat.le_trans hlb.1 (by show 0 + m ≤ 60; omega), hlb.2.1⟩
    have HFA := Lib.hid hfa; have HFB := Lib.hid hfb; have HVA := Lib.hid hva; have HSP := Lib.hid hsp
    have HPA : Hid (∀ X, Below w3.heap.size w3 X → Calls Tryd.prog 11 #[.agg (flL (.slice A0 0 k0) (.slice A1 3 k1) spP 0).toArray, .slice PA ps.length pcap, .slice EA k ecap] X (PlaG X (fa, xa))) := fun X hX => by
      have := play_any (f := spF) (l := l.take k) (HOW3.out.below hX).inF pcap ecap (by rw [hlk]; show 0 + k ≤ 900; have := HKM.out; omega) (by decide) (HG.out.below ((HB3.out.mono HG.out.le).trans (hX.mono (Nat.le_trans HG.out.le HB3.out.size)))) (by unfold In64F; decide) ((HEL.out.take k).below (HB3.out.trans (hX.mono HB3.out.size)))
      rw [hra, hlk] at this; exact this
    have HPB : Hid (∀ X, Below w3.heap.size w3 X → Calls Tryd.prog 11 #[.agg (flL (.slice A0 0 k0) (.slice A1 3 k1) spP 0).toArray, .slice PA ps.length pcap, .slice EA m ecap] X (PlaG X (fb, yb))) := fun X hX => by
      have := play_any (f := spF) (l := l) (HOW3.out.below hX).inF pcap ecap (by rw [HM.out]; show 0 + m ≤ 900; omega) (by decide) (HG.out.below ((HB3.out.mono HG.out.le).trans (hX.mono (Nat.le_trans HG.out.le HB3.out.size)))) (by unfold In64F; decide) (HEL.out.below (HB3.out.trans (hX.mono HB3.out.size)))
      rw [hrb, HM.out] at this; exact this
    have HSR : Hid (∀ X, Below w3.heap.size w3 X → X.rangeAt b7 0 (flL (.slice A0 0 k0) (.slice A1 3 k1) spP 0)) := fun X hX => BF.all (Blk.below HBF3.out hX (Blk.lt HBF3.out))
    have j0 : (0 : Int) ≤ (k : Int) := by omega
    have j1 : (k : Int) ≤ (m : Int) := by omega
    have j2 : k ≤ ecap := by omega
    have j3 : (k : Int) ≤ (ecap : Int) := by omega
    have j4 : k ≤ m := hkm
    clear hra hrb hev hlk hla hlb hva hsp hfa hfb hkm
    refine wp_region_held_drew (S := fun X => X.rangeAt b7 0 (flL (.slice A0 0 k0) (.slice A1 3 k1) spP 0)) (by kernel_rfl) (HSR.out _ ((Below.refl _ _).drew)) (fun hHeld => ?_)
    show wpAnyH _ _ _ _ _ _ _ _ _
    try dsimp only at hHeld
    have HVW := Lib.hid ((Below.refl w3.heap.size w3).drew)
    generalize w3.drew = V at *
    obtain ⟨V0, hV0⟩ : ∃ V0, V = V0 := ⟨_, rfl⟩
    have HVV : Hid (Below V0.heap.size V0 V) := by rw [← hV0]; exact Below.refl _ _
    have HV0 : Hid (Below w3.heap.size w3 V0) := by rw [← hV0]; exact HVW.out
    clear hV0
    refine wpAnyH_take (i := 0) (v := .agg (flL (.slice A0 0 k0) (.slice A1 3 k1) spP 0).toArray) rfl (by kernel_rfl) (by kernel_rfl) (by kernel_rfl) (fun _ _ _ h => h) (yieldsIf_load_mid (by rfl) 30 (.tmp 7) rfl b7 0 rfl (flL (.slice A0 0 k0) (.slice A1 3 k1) spP 0) _ (fun X' h => h) under30 rfl (by rw [infoFlat, flL_len])) hHeld ?_
    go_simp
    refine wpAnyH_take (i := 1) (v := ?_) rfl (by kernel_rfl) (by kernel_rfl) (by kernel_rfl) (fun _ _ _ h => h) (Or.inl ⟨by rfl, fun X hX => by (go_simp <;> with_reducible rfl)⟩) hHeld ?_
    go_simp
    refine wpAnyH_take (i := 2) (v := ?_) rfl (by kernel_rfl) (by kernel_rfl) (by kernel_rfl) (fun _ _ _ h => h) (Or.inl ⟨by rfl, fun X hX => by (go_simp <;> with_reducible rfl)⟩) hHeld ?_
    go_simp
    refine wpAnyH_take (i := 3) (v := ?_) rfl (by kernel_rfl) (by kernel_rfl) (by kernel_rfl) (fun _ _ _ h => h) (Or.inl ⟨by rfl, fun X hX => by (go_simp <;> with_reducible rfl)⟩) hHeld ?_
    go_simp
    refine wpAnyH_take (i := 4) (v := ?_) rfl (by kernel_rfl) (by kernel_rfl) (by kernel_rfl) (fun _ _ _ h => h) (Or.inl ⟨by rfl, fun X hX => by (go_simp <;> with_reducible rfl)⟩) hHeld ?_
    go_simp
    refine wpAnyH_ready (rs := [5, 9]) (by kernel_rfl) (by simp) (AllReadyH.cons rfl (fun K hK => ?_) (AllReadyH.cons rfl (fun K hK => ?_) AllReadyH.nil))
    · go_simp
      go_at_call 11
      (with_reducible refine (HPA.out V HVW.out).mono ?_)
      rintro er w5 ⟨F5, O5, rfl, h5, hb5⟩
      obtain ⟨Aa, ca, rfl, -⟩ := own_tsIn h5.tk
      obtain ⟨Ea, da, rfl, -⟩ := own_numsIn h5.ow
      have HCa : Hid (V0.heap.size ≤ V.heap.size) := HVV.out.size
      have HVW := Lib.hid (HVW.out.trans (hb5.mono HVW.out.size))
      have HVV := Lib.hid (HVV.out.trans (hb5.mono HVV.out.size))
      have Ha := Lib.hid h5
      (try (go_wp2_with fail))
      refine hK.out _ _ (HSR.out _ HVW.out) (fun hHeld => ?_)
      clear hK K h5 hb5
      obtain ⟨Ca, hC5⟩ : ∃ q, V.heap.size = q := ⟨_, rfl⟩
      rw [hC5] at Ha HCa
      clear hC5
      generalize w5 = V at *
      (try go_simp)
      refine wpAnyH_take (i := 6) (v := ?_) rfl (by kernel_rfl) (by kernel_rfl) (by kernel_rfl) (fun _ _ _ h => h) (Or.inl ⟨by rfl, fun X hX => by (go_simp <;> with_reducible rfl)⟩) hHeld ?_
      go_simp
      refine wpAnyH_take (i := 7) (v := ?_) rfl (by kernel_rfl) (by kernel_rfl) (by kernel_rfl) (fun _ _ _ h => h) (Or.inl ⟨by rfl, fun X hX => by (go_simp <;> with_reducible rfl)⟩) hHeld ?_
      go_simp
      refine wpAnyH_take (i := 8) (v := ?_) rfl (by kernel_rfl) (by kernel_rfl) (by kernel_rfl) (fun _ _ _ h => h) (Or.inl ⟨by rfl, fun X hX => by (go_simp <;> with_reducible rfl)⟩) hHeld ?_
      go_simp
      refine wpAnyH_ready (rs := [9]) (by kernel_rfl) (by simp) (AllReadyH.cons rfl (fun K hK => ?_) AllReadyH.nil)
      go_simp
      have hal := (Below.refl V.heap.size V).alloc (Nat.le_refl _) (.cells #[.slice none 0 0, .int .u64 0, .int .u64 0, .int .u64 0, .int .u64 0, .int .u64 0, .int .u64 0, .int .u64 0, .int .u64 0, .int .u64 0, .int .u64 0, .int .u64 0, .int .u64 0, .int .u64 0, .int .u64 0, .int .u64 0, .int .u64 0, .slice none 0 0, .int .i64 0] 30)
      have hrb := Blk.new V 30 #[.slice none 0 0, .int .u64 0, .int .u64 0, .int .u64 0, .int .u64 0, .int .u64 0, .int .u64 0, .int .u64 0, .int .u64 0, .int .u64 0, .int .u64 0, .int .u64 0, .int .u64 0, .int .u64 0, .int .u64 0, .int .u64 0, .int .u64 0, .slice none 0 0, .int .i64 0]
      have HRL : Hid (V0.heap.size ≤ V.heap.size) := HVV.out.size
      have HVW := Lib.hid (HVW.out.trans (hal.mono HVW.out.size))
      have HVV := Lib.hid (HVV.out.trans (hal.mono HVV.out.size))
      have HNR : Hid (∀ k, OwnB (.slice Aa fa.ts.length ca) (.slice Ea fa.ow.length da) k → k ≠ V.heap.size) := fun k hk => by have := (Ha.out.lt hk).2; omega
      have Ha := Lib.hid (Ha.out.below hal)
      refine hK.out _ _ (HSR.out _ HVW.out) (fun hHeld => ?_)
      clear hK K hal
      obtain ⟨ra, hrbe⟩ : ∃ q, V.heap.size = q := ⟨_, rfl⟩
      rw [hrbe] at hrb HRL HNR
      (try rw [hrbe])
      have HRB := Lib.hid hrb
      clear hrb hrbe
      generalize V.alloc (.cells #[.slice none 0 0, .int .u64 0, .int .u64 0, .int .u64 0, .int .u64 0, .int .u64 0, .int .u64 0, .int .u64 0, .int .u64 0, .int .u64 0, .int .u64 0, .int .u64 0, .int .u64 0, .int .u64 0, .int .u64 0, .int .u64 0, .int .u64 0, .slice none 0 0, .int .i64 0] 30) = V at *
      refine wpAnyH_ready (rs := [10]) (by kernel_rfl) (by simp) (AllReadyH.cons rfl (fun K hK => ?_) AllReadyH.nil)
      refine step_st_flat rfl (.tmp 9) (.tmp 42) rfl ra rfl rfl rfl rfl _ HRB.out rfl ?_
      have hb9 := (((But.of_below (X := fun k => V0.heap.size ≤ k) HVV.out).row ra (flL (.slice Aa fa.ts.length ca) (.slice Ea fa.ow.length da) fa.p fa.tm).toArray (.inr HRL.out))).below (Nat.le_refl _) fun k _ q => q
      have HVa := Lib.hid (HV0.out.trans (hb9.mono HV0.out.size))
      have HFa : Hid (BF (V.setRow ra (flL (.slice Aa fa.ts.length ca) (.slice Ea fa.ow.length da) fa.p fa.tm).toArray) ra (.slice Aa fa.ts.length ca) (.slice Ea fa.ow.length da) fa.p fa.tm) := BF.row HRB.out
      have Ha := Lib.hid (Ha.out.row ra (flL (.slice Aa fa.ts.length ca) (.slice Ea fa.ow.length da) fa.p fa.tm).toArray HNR.out)
      refine hK.out _ _ (HSR.out _ HVa.out) (fun hHeld => ?_)
      clear hK K hb9
      generalize V.setRow ra (flL (.slice Aa fa.ts.length ca) (.slice Ea fa.ow.length da) fa.p fa.tm).toArray = Va at *
      (try go_simp)
      refine wpAnyH_ready (rs := [11]) (by kernel_rfl) (by simp) (AllReadyH.cons rfl (fun K hK => ?_) AllReadyH.nil)
      go_simp
      refine hK.out _ _ hHeld (fun hHeld => ?_)
      clear hK K
      refine wpAnyH_done (by kernel_rfl) ?_ _
      clear HVV HVW HRB HNR HRL HCa HV0 hHeld
      go_upto_region 7 with fail
      have HBA := Lib.hid (HB3.out.trans (HVa.out.mono HB3.out.size))
      have HBF7 : Hid (BF Va b7 (.slice A0 0 k0) (.slice A1 3 k1) spP 0) := Blk.below HBF3.out HVa.out (Blk.lt HBF3.out)
      have HPBa := Lib.hid (HPB.out Va HVa.out)
      go_upto_region 8 with (first
        | (with_reducible (show wpList _ _ _ _ _ _); refine ld_flat rfl (.tmp 7) rfl b7 rfl HBF7.out ?_)
        | (go_at_call 11; (with_reducible refine HPBa.out.mono ?_); rintro e w7 ⟨F7, O7, rfl, h7, hb7⟩; obtain ⟨Ab, cb, rfl, -⟩ := own_tsIn h7.tk; obtain ⟨Eb, db, rfl, -⟩ := own_numsIn h7.ow; have HB7 := Lib.hid hb7; have H7 := Lib.hid h7; clear h7 hb7)
        | (with_reducible (show wpList _ _ _ _ _ _); refine st_flat rfl (.tmp 11) (.tmp 49) rfl w7.heap.size rfl rfl rfl rfl _ (Blk.new w7 _ _) rfl ?_))
      have HFb : Hid (BF ((w7.alloc (.cells #[.slice none 0 0, .int .u64 0, .int .u64 0, .int .u64 0, .int .u64 0, .int .u64 0, .int .u64 0, .int .u64 0, .int .u64 0, .int .u64 0, .int .u64 0, .int .u64 0, .int .u64 0, .int .u64 0, .int .u64 0, .int .u64 0, .int .u64 0, .slice none 0 0, .int .i64 0] 30)).setRow w7.heap.size (flL (.slice Ab fb.ts.length cb) (.slice Eb fb.ow.length db) fb.p fb.tm).toArray) w7.heap.size (.slice Ab fb.ts.length cb) (.slice Eb fb.ow.length db) fb.p fb.tm) := BF.row (Blk.new w7 _ _)
      have Hb : Hid (OwnF ((w7.alloc (.cells #[.slice none 0 0, .int .u64 0, .int .u64 0, .int .u64 0, .int .u64 0, .int .u64 0, .int .u64 0, .int .u64 0, .int .u64 0, .int .u64 0, .int .u64 0, .int .u64 0, .int .u64 0, .int .u64 0, .int .u64 0, .int .u64 0, .int .u64 0, .slice none 0 0, .int .i64 0] 30)).setRow w7.heap.size (flL (.slice Ab fb.ts.length cb) (.slice Eb fb.ow.length db) fb.p fb.tm).toArray) Va.heap.size (.slice Ab fb.ts.length cb) (.slice Eb fb.ow.length db) fb.ts fb.ow) := (H7.out.below ((Below.refl _ _).alloc (Nat.le_refl _) _)).row _ _ fun k hk => by have := (H7.out.lt hk).2; omega
      have HVb : Hid (Below Va.heap.size Va ((w7.alloc (.cells #[.slice none 0 0, .int .u64 0, .int .u64 0, .int .u64 0, .int .u64 0, .int .u64 0, .int .u64 0, .int .u64 0, .int .u64 0, .int .u64 0, .int .u64 0, .int .u64 0, .int .u64 0, .int .u64 0, .int .u64 0, .int .u64 0, .int .u64 0, .slice none 0 0, .int .i64 0] 30)).setRow w7.heap.size (flL (.slice Ab fb.ts.length cb) (.slice Eb fb.ow.length db) fb.p fb.tm).toArray)) := (((But.of_below (X := fun k => Va.heap.size ≤ k) HB7.out).alloc _).row _ _ (.inr HB7.out.size)).below (Nat.le_refl _) fun k _ q => q
      generalize (w7.alloc (.cells #[.slice none 0 0, .int .u64 0, .int .u64 0, .int .u64 0, .int .u64 0, .int .u64 0, .int .u64 0, .int .u64 0, .int .u64 0, .int .u64 0, .int .u64 0, .int .u64 0, .int .u64 0, .int .u64 0, .int .u64 0, .int .u64 0, .int .u64 0, .slice none 0 0, .int .i64 0] 30)).setRow w7.heap.size (flL (.slice Ab fb.ts.length cb) (.slice Eb fb.ow.length db) fb.p fb.tm).toArray = Vb at *
      generalize w7.heap.size = rb at *
      clear HB7 H7 HPBa HBF7 HPA HPB HSR
      have HBFa := Lib.hid (Blk.below HFa.out HVb.out (Blk.lt HFa.out))
      have Ha8 := Lib.hid (Ha.out.below HVb.out)
      have HB8 := Lib.hid (HBA.out.trans (HVb.out.mono HBA.out.size))
      clear HFa Ha HBA
      by_cases hx : 0 ≤ xa
      · have tx : decide (0 ≤ xa) = true := by simpa using hx
        have hfy := HSP.out.1 (by show xa ≠ -1; omega)
        have e1 : fb = fa := congrArg Prod.fst hfy
        have e2 : yb = xa := congrArg Prod.snd hfy
        subst e1 e2
        have ty : (yb == yb) = true := by simp
        have HSM := Lib.hid (same_yes (p := fb.p) (t := fb.tm) Ha8.out.inF Hb.out.inF (by have := HFB.out.1; omega) (by have := HFB.out.2; omega))
        go_wp2_with (with_reducible (show wpList _ _ _ _ _ _); refine loadF_halt rfl (.tmp 9) rfl ?_)
        refine Lib.hid ?_
        refine ld_flatg (by rfl) (.tmp 9) rfl ra rfl HBFa.out ?_
        go_wp2_with (with_reducible (show wpList _ _ _ _ _ _); refine loadF_halt rfl (.tmp 11) rfl ?_)
        refine Lib.hid ?_
        refine ld_flatg (by rfl) (.tmp 11) rfl rb rfl HFb.out ?_
        go_wp2_with (first
          | (go_at_call 12; (with_reducible refine HSM.out.mono ?_); rintro e w9 ⟨rfl, h9⟩; have HB9 := Lib.hid (HB8.out.trans (h9.mono HB8.out.size)); have HLV9 := Lib.hid (HLV.out _ HB9.out); clear h9)
          | (go_at_call 9; (with_reducible refine HLV9.out.mono ?_); rintro e wA ⟨rfl, hA⟩; have HBF9 := Lib.hid (HB9.out.trans (hA.mono HB9.out.size)); clear hA))
        go_ret
        exact ⟨rfl, HBF9.out⟩
      · have tx : decide (0 ≤ xa) = false := by simpa using hx
        obtain rfl : xa = -1 := by have := HVA.out; omega
        obtain ⟨EA2, hEA2⟩ : ∃ x, (if ecap = k then EA else Option.map (fun x => x.add (k * 5)) EA) = x := ⟨_, rfl⟩
        have hE2 : EvIn w EA2 (l.drop k) := fun i e he => by
          have hil := (List.getElem?_eq_some_iff.1 he).1
          rw [List.length_drop, HM.out] at hil
          have hne : ecap ≠ k := by omega
          rw [if_neg hne] at hEA2
          obtain ⟨-, b0, o0, rfl, -⟩ := HEL.out (k + i) e (by rw [List.getElem?_drop] at he; exact he)
          have hd := (HEL.out.drop k) i e he
          rw [← hEA2]
          simp only [Option.map_some, Addr.add_mid]
          exact hd
        obtain ⟨fc, zc, hrc⟩ : ∃ fc zc, playP ps fa (l.drop k) 0 = (fc, zc) := ⟨_, _, rfl⟩
        have hld : (l.drop k).length = m - k := by rw [List.length_drop, HM.out]
        have hvc := playP_val ps (l.drop k) fa 0
        have hs2 := HSP.out.2 rfl
        (try dsimp only at hs2)
        rw [hrc] at hs2 hvc
        (try dsimp only at hs2 hvc)
        obtain ⟨e1, e2⟩ := hs2
        have hPC : ∀ X, Below Vb.heap.size Vb X → Calls Tryd.prog 11 #[.agg (flL (.slice Aa fa.ts.length ca) (.slice Ea fa.ow.length da) fa.p fa.tm).toArray, .slice PA ps.length pcap, .slice EA2 (m - k) (ecap - k)] X (PlaG X (fc, zc)) := fun X hX => by
          have := play_any (f := fa) (l := l.drop k) (Ha8.out.below hX).inF pcap (ecap - k) (by rw [hld]; have := HFA.out.1; omega) (by have := HFA.out.2.1; omega) (HG.out.below ((HB8.out.mono HG.out.le).trans (hX.mono (Nat.le_trans HG.out.le HB8.out.size)))) HFA.out.2.2 (hE2.below (HB8.out.trans (hX.mono HB8.out.size)))
          rw [hrc, hld] at this; exact this
        have HPC := Lib.hid hPC; have HVC := Lib.hid hvc; have HE1 := Lib.hid e1; have HE2 := Lib.hid e2
        have HS10 : Hid (∀ X, Below Vb.heap.size Vb X → X.rangeAt ra 0 (flL (.slice Aa fa.ts.length ca) (.slice Ea fa.ow.length da) fa.p fa.tm)) := fun X hX => BF.all (Blk.below HBFa.out hX (Blk.lt HBFa.out))
        clear hE2 hrc hld hPC hvc e1 e2
        go_upto_region 10 with fail
        refine wp_region_held_drew (S := fun X => X.rangeAt ra 0 (flL (.slice Aa fa.ts.length ca) (.slice Ea fa.ow.length da) fa.p fa.tm)) (by kernel_rfl) (HS10.out _ ((Below.refl _ _).drew)) (fun hHeld => ?_)
        show wpAnyH _ _ _ _ _ _ _ _ _
        try dsimp only at hHeld
        have HVW := Lib.hid ((Below.refl Vb.heap.size Vb).drew)
        generalize Vb.drew = V at *
        obtain ⟨V0, hV0⟩ : ∃ V0, V = V0 := ⟨_, rfl⟩
        have HVV : Hid (Below V0.heap.size V0 V) := by rw [← hV0]; exact Below.refl _ _
        have HV0 : Hid (Below Vb.heap.size Vb V0) := by rw [← hV0]; exact HVW.out
        clear hV0
        refine wpAnyH_take (i := 0) (v := .agg (flL (.slice Aa fa.ts.length ca) (.slice Ea fa.ow.length da) fa.p fa.tm).toArray) rfl (by kernel_rfl) (by kernel_rfl) (by kernel_rfl) (fun _ _ _ h => h) (yieldsIf_load_mid (by rfl) 30 (.tmp 9) rfl ra 0 rfl (flL (.slice Aa fa.ts.length ca) (.slice Ea fa.ow.length da) fa.p fa.tm) _ (fun X' h => h) under30 rfl (by rw [infoFlat, flL_len])) hHeld ?_
        go_simp
        refine wpAnyH_take (i := 1) (v := ?_) rfl (by kernel_rfl) (by kernel_rfl) (by kernel_rfl) (fun _ _ _ h => h) (Or.inl ⟨by rfl, fun X hX => by (go_simp <;> with_reducible rfl)⟩) hHeld ?_
        go_simp
        refine wpAnyH_take (i := 2) (v := ?_) rfl (by kernel_rfl) (by kernel_rfl) (by kernel_rfl) (fun _ _ _ h => h) (Or.inl ⟨by rfl, fun X hX => by (go_simp <;> with_reducible rfl)⟩) hHeld ?_
        go_simp
        refine wpAnyH_take (i := 3) (v := ?_) rfl (by kernel_rfl) (by kernel_rfl) (by kernel_rfl) (fun _ _ _ h => h) (Or.inl ⟨by rfl, fun X hX => by (go_simp <;> with_reducible rfl)⟩) hHeld ?_
        go_simp
        refine wpAnyH_take (i := 4) (v := ?_) rfl (by kernel_rfl) (by kernel_rfl) (by kernel_rfl) (fun _ _ _ h => h) (Or.inl ⟨by rfl, fun X hX => by (go_simp <;> with_reducible rfl)⟩) hHeld ?_
        go_simp
        refine wpAnyH_ready (rs := [5, 9]) (by kernel_rfl) (by simp) (AllReadyH.cons rfl (fun K hK => ?_) (AllReadyH.cons rfl (fun K hK => ?_) AllReadyH.nil))
        · go_simp
          go_at_call 11
          (with_reducible refine (HPC.out V HVW.out).mono ?_)
          rintro er w5 ⟨F5, O5, rfl, h5, hb5⟩
          obtain ⟨Ac, cc, rfl, -⟩ := own_tsIn h5.tk
          obtain ⟨Ec, dc, rfl, -⟩ := own_numsIn h5.ow
          have HCc : Hid (V0.heap.size ≤ V.heap.size) := HVV.out.size
          have HVW := Lib.hid (HVW.out.trans (hb5.mono HVW.out.size))
          have HVV := Lib.hid (HVV.out.trans (hb5.mono HVV.out.size))
          have Hc := Lib.hid h5
          (try (go_wp2_with fail))
          refine hK.out _ _ (HS10.out _ HVW.out) (fun hHeld => ?_)
          clear hK K h5 hb5
          obtain ⟨Cc, hC5⟩ : ∃ q, V.heap.size = q := ⟨_, rfl⟩
          rw [hC5] at Hc HCc
          clear hC5
          generalize w5 = V at *
          (try go_simp)
          refine wpAnyH_take (i := 6) (v := ?_) rfl (by kernel_rfl) (by kernel_rfl) (by kernel_rfl) (fun _ _ _ h => h) (Or.inl ⟨by rfl, fun X hX => by (go_simp <;> with_reducible rfl)⟩) hHeld ?_
          go_simp
          refine wpAnyH_take (i := 7) (v := ?_) rfl (by kernel_rfl) (by kernel_rfl) (by kernel_rfl) (fun _ _ _ h => h) (Or.inl ⟨by rfl, fun X hX => by (go_simp <;> with_reducible rfl)⟩) hHeld ?_
          go_simp
          refine wpAnyH_take (i := 8) (v := ?_) rfl (by kernel_rfl) (by kernel_rfl) (by kernel_rfl) (fun _ _ _ h => h) (Or.inl ⟨by rfl, fun X hX => by (go_simp <;> with_reducible rfl)⟩) hHeld ?_
          go_simp
          refine wpAnyH_ready (rs := [9]) (by kernel_rfl) (by simp) (AllReadyH.cons rfl (fun K hK => ?_) AllReadyH.nil)
          go_simp
          have hal := (Below.refl V.heap.size V).alloc (Nat.le_refl _) (.cells #[.slice none 0 0, .int .u64 0, .int .u64 0, .int .u64 0, .int .u64 0, .int .u64 0, .int .u64 0, .int .u64 0, .int .u64 0, .int .u64 0, .int .u64 0, .int .u64 0, .int .u64 0, .int .u64 0, .int .u64 0, .int .u64 0, .int .u64 0, .slice none 0 0, .int .i64 0] 30)
          have hrb := Blk.new V 30 #[.slice none 0 0, .int .u64 0, .int .u64 0, .int .u64 0, .int .u64 0, .int .u64 0, .int .u64 0, .int .u64 0, .int .u64 0, .int .u64 0, .int .u64 0, .int .u64 0, .int .u64 0, .int .u64 0, .int .u64 0, .int .u64 0, .int .u64 0, .slice none 0 0, .int .i64 0]
          have HRL : Hid (V0.heap.size ≤ V.heap.size) := HVV.out.size
          have HVW := Lib.hid (HVW.out.trans (hal.mono HVW.out.size))
          have HVV := Lib.hid (HVV.out.trans (hal.mono HVV.out.size))
          have HNR : Hid (∀ k, OwnB (.slice Ac fc.ts.length cc) (.slice Ec fc.ow.length dc) k → k ≠ V.heap.size) := fun k hk => by have := (Hc.out.lt hk).2; omega
          have Hc := Lib.hid (Hc.out.below hal)
          refine hK.out _ _ (HS10.out _ HVW.out) (fun hHeld => ?_)
          clear hK K hal
          obtain ⟨rc, hrbe⟩ : ∃ q, V.heap.size = q := ⟨_, rfl⟩
          rw [hrbe] at hrb HRL HNR
          (try rw [hrbe])
          have HRB := Lib.hid hrb
          clear hrb hrbe
          generalize V.alloc (.cells #[.slice none 0 0, .int .u64 0, .int .u64 0, .int .u64 0, .int .u64 0, .int .u64 0, .int .u64 0, .int .u64 0, .int .u64 0, .int .u64 0, .int .u64 0, .int .u64 0, .int .u64 0, .int .u64 0, .int .u64 0, .int .u64 0, .int .u64 0, .slice none 0 0, .int .i64 0] 30) = V at *
          refine wpAnyH_ready (rs := [10]) (by kernel_rfl) (by simp) (AllReadyH.cons rfl (fun K hK => ?_) AllReadyH.nil)
          refine step_st_flat rfl (.tmp 13) (.tmp 71) rfl rc rfl rfl rfl rfl _ HRB.out rfl ?_
          have hb9 := (((But.of_below (X := fun k => V0.heap.size ≤ k) HVV.out).row rc (flL (.slice Ac fc.ts.length cc) (.slice Ec fc.ow.length dc) fc.p fc.tm).toArray (.inr HRL.out))).below (Nat.le_refl _) fun k _ q => q
          have HVc := Lib.hid (HV0.out.trans (hb9.mono HV0.out.size))
          have HFc : Hid (BF (V.setRow rc (flL (.slice Ac fc.ts.length cc) (.slice Ec fc.ow.length dc) fc.p fc.tm).toArray) rc (.slice Ac fc.ts.length cc) (.slice Ec fc.ow.length dc) fc.p fc.tm) := BF.row HRB.out
          have Hc := Lib.hid (Hc.out.row rc (flL (.slice Ac fc.ts.length cc) (.slice Ec fc.ow.length dc) fc.p fc.tm).toArray HNR.out)
          refine hK.out _ _ (HS10.out _ HVc.out) (fun hHeld => ?_)
          clear hK K hb9
          generalize V.setRow rc (flL (.slice Ac fc.ts.length cc) (.slice Ec fc.ow.length dc) fc.p fc.tm).toArray = Vc at *
          (try go_simp)
          refine wpAnyH_ready (rs := [11]) (by kernel_rfl) (by simp) (AllReadyH.cons rfl (fun K hK => ?_) AllReadyH.nil)
          go_simp
          refine hK.out _ _ hHeld (fun hHeld => ?_)
          clear hK K
          refine wpAnyH_done (by kernel_rfl) ?_ _
          clear HVV HVW HRB HNR HRL HCc HV0 hHeld
          go_upto_region 11 with fail
          have HBc := Lib.hid (HB8.out.trans (HVc.out.mono HB8.out.size))
          have HFb13 : Hid (BF Vc rb (.slice Ab fb.ts.length cb) (.slice Eb fb.ow.length db) fb.p fb.tm) := Blk.below HFb.out HVc.out (Blk.lt HFb.out)
          have Hb13 := Lib.hid (Hb.out.below HVc.out)
          have e1 := HE1.out
          subst e1
          have HSM := Lib.hid (same_yes (p := fb.p) (t := fb.tm) Hb13.out.inF Hc.out.inF (by have := HFB.out.1; omega) (by have := HFB.out.2; omega))
          by_cases hz : 0 ≤ zc
          · have tz : decide (0 ≤ zc) = true := by simpa using hz
            have e2 : yb = zc + k := by have := HE2.out; rwa [if_pos hz] at this
            have hw : wrap64 (zc + k) = zc + k := by have := HVC.out; unfold wrap64; have := HKM.out; rw [List.length_drop, HM.out] at *; omega
            subst e2
            have ty : ((zc + (k : Int)) == (zc + (k : Int))) = true := by simp
            go_wp2_with (with_reducible (show wpList _ _ _ _ _ _); refine loadF_halt rfl (.tmp 11) rfl ?_)
            refine Lib.hid ?_
            refine ld_flatg (by rfl) (.tmp 11) rfl rb rfl HFb13.out ?_
            go_wp2_with (with_reducible (show wpList _ _ _ _ _ _); refine loadF_halt rfl (.tmp 13) rfl ?_)
            refine Lib.hid ?_
            refine ld_flatg (by rfl) (.tmp 13) rfl rc rfl HFc.out ?_
            go_wp2_with (first
              | (go_at_call 12; (with_reducible refine HSM.out.mono ?_); rintro e w9 ⟨rfl, h9⟩; have HB9 := Lib.hid (HBc.out.trans (h9.mono HBc.out.size)); have HLV9 := Lib.hid (HLV.out _ HB9.out); clear h9)
              | (go_at_call 9; (with_reducible refine HLV9.out.mono ?_); rintro e wA ⟨rfl, hA⟩; have HBF9 := Lib.hid (HB9.out.trans (hA.mono HB9.out.size)); clear hA))
            go_ret
            exact ⟨rfl, HBF9.out⟩
          · have tz : decide (0 ≤ zc) = false := by simpa using hz
            have e2 : yb = zc := by have := HE2.out; rwa [if_neg hz] at this
            subst e2
            have ty : (yb == yb) = true := by simp
            go_wp2_with (with_reducible (show wpList _ _ _ _ _ _); refine loadF_halt rfl (.tmp 11) rfl ?_)
            refine Lib.hid ?_
            refine ld_flatg (by rfl) (.tmp 11) rfl rb rfl HFb13.out ?_
            go_wp2_with (with_reducible (show wpList _ _ _ _ _ _); refine loadF_halt rfl (.tmp 13) rfl ?_)
            refine Lib.hid ?_
            refine ld_flatg (by rfl) (.tmp 13) rfl rc rfl HFc.out ?_
            go_wp2_with (first
              | (go_at_call 12; (with_reducible refine HSM.out.mono ?_); rintro e w9 ⟨rfl, h9⟩; have HB9 := Lib.hid (HBc.out.trans (h9.mono HBc.out.size)); have HLV9 := Lib.hid (HLV.out _ HB9.out); clear h9)
              | (go_at_call 9; (with_reducible refine HLV9.out.mono ?_); rintro e wA ⟨rfl, hA⟩; have HBF9 := Lib.hid (HB9.out.trans (hA.mono HB9.out.size)); clear hA))
            go_ret
            exact ⟨rfl, HBF9.out⟩
        · go_simp
          have hal := (Below.refl V.heap.size V).alloc (Nat.le_refl _) (.cells #[.slice none 0 0, .int .u64 0, .int .u64 0, .int .u64 0, .int .u64 0, .int .u64 0, .int .u64 0, .int .u64 0, .int .u64 0, .int .u64 0, .int .u64 0, .int .u64 0, .int .u64 0, .int .u64 0, .int .u64 0, .int .u64 0, .int .u64 0, .slice none 0 0, .int .i64 0] 30)
          have hrb := Blk.new V 30 #[.slice none 0 0, .int .u64 0, .int .u64 0, .int .u64 0, .int .u64 0, .int .u64 0, .int .u64 0, .int .u64 0, .int .u64 0, .int .u64 0, .int .u64 0, .int .u64 0, .int .u64 0, .int .u64 0, .int .u64 0, .int .u64 0, .int .u64 0, .slice none 0 0, .int .i64 0]
          have HRL : Hid (V0.heap.size ≤ V.heap.size) := HVV.out.size
          have HVW := Lib.hid (HVW.out.trans (hal.mono HVW.out.size))
          have HVV := Lib.hid (HVV.out.trans (hal.mono HVV.out.size))
          refine hK.out _ _ (HS10.out _ HVW.out) (fun hHeld => ?_)
          clear hK K hal
          obtain ⟨rc, hrbe⟩ : ∃ q, V.heap.size = q := ⟨_, rfl⟩
          rw [hrbe] at hrb HRL
          (try rw [hrbe])
          have HRB := Lib.hid hrb
          clear hrb hrbe
          generalize V.alloc (.cells #[.slice none 0 0, .int .u64 0, .int .u64 0, .int .u64 0, .int .u64 0, .int .u64 0, .int .u64 0, .int .u64 0, .int .u64 0, .int .u64 0, .int .u64 0, .int .u64 0, .int .u64 0, .int .u64 0, .int .u64 0, .int .u64 0, .int .u64 0, .slice none 0 0, .int .i64 0] 30) = V at *
          refine wpAnyH_ready (rs := [5]) (by kernel_rfl) (by simp) (AllReadyH.cons rfl (fun K hK => ?_) AllReadyH.nil)
          go_simp
          go_at_call 11
          (with_reducible refine (HPC.out V HVW.out).mono ?_)
          rintro er w5 ⟨F5, O5, rfl, h5, hb5⟩
          obtain ⟨Ac, cc, rfl, -⟩ := own_tsIn h5.tk
          obtain ⟨Ec, dc, rfl, -⟩ := own_numsIn h5.ow
          have HNR : Hid (∀ k, OwnB (.slice Ac fc.ts.length cc) (.slice Ec fc.ow.length dc) k → k ≠ rc) := fun k hk => by have := (h5.lt hk).1; have := HRB.out.lt; omega
          have HRB := Lib.hid (HRB.out.below hb5 HRB.out.lt)
          have HCc : Hid (V0.heap.size ≤ V.heap.size) := HVV.out.size
          have HVW := Lib.hid (HVW.out.trans (hb5.mono HVW.out.size))
          have HVV := Lib.hid (HVV.out.trans (hb5.mono HVV.out.size))
          have Hc := Lib.hid h5
          (try (go_wp2_with fail))
          refine hK.out _ _ (HS10.out _ HVW.out) (fun hHeld => ?_)
          clear hK K h5 hb5
          obtain ⟨Cc, hC5⟩ : ∃ q, V.heap.size = q := ⟨_, rfl⟩
          rw [hC5] at Hc HCc
          clear hC5
          generalize w5 = V at *
          (try go_simp)
          refine wpAnyH_take (i := 6) (v := ?_) rfl (by kernel_rfl) (by kernel_rfl) (by kernel_rfl) (fun _ _ _ h => h) (Or.inl ⟨by rfl, fun X hX => by (go_simp <;> with_reducible rfl)⟩) hHeld ?_
          go_simp
          refine wpAnyH_take (i := 7) (v := ?_) rfl (by kernel_rfl) (by kernel_rfl) (by kernel_rfl) (fun _ _ _ h => h) (Or.inl ⟨by rfl, fun X hX => by (go_simp <;> with_reducible rfl)⟩) hHeld ?_
          go_simp
          refine wpAnyH_take (i := 8) (v := ?_) rfl (by kernel_rfl) (by kernel_rfl) (by kernel_rfl) (fun _ _ _ h => h) (Or.inl ⟨by rfl, fun X hX => by (go_simp <;> with_reducible rfl)⟩) hHeld ?_
          go_simp
          refine wpAnyH_ready (rs := [10]) (by kernel_rfl) (by simp) (AllReadyH.cons rfl (fun K hK => ?_) AllReadyH.nil)
          refine step_st_flat rfl (.tmp 13) (.tmp 71) rfl rc rfl rfl rfl rfl _ HRB.out rfl ?_
          have hb9 := (((But.of_below (X := fun k => V0.heap.size ≤ k) HVV.out).row rc (flL (.slice Ac fc.ts.length cc) (.slice Ec fc.ow.length dc) fc.p fc.tm).toArray (.inr HRL.out))).below (Nat.le_refl _) fun k _ q => q
          have HVc := Lib.hid (HV0.out.trans (hb9.mono HV0.out.size))
          have HFc : Hid (BF (V.setRow rc (flL (.slice Ac fc.ts.length cc) (.slice Ec fc.ow.length dc) fc.p fc.tm).toArray) rc (.slice Ac fc.ts.length cc) (.slice Ec fc.ow.length dc) fc.p fc.tm) := BF.row HRB.out
          have Hc := Lib.hid (Hc.out.row rc (flL (.slice Ac fc.ts.length cc) (.slice Ec fc.ow.length dc) fc.p fc.tm).toArray HNR.out)
          refine hK.out _ _ (HS10.out _ HVc.out) (fun hHeld => ?_)
          clear hK K hb9
          generalize V.setRow rc (flL (.slice Ac fc.ts.length cc) (.slice Ec fc.ow.length dc) fc.p fc.tm).toArray = Vc at *
          (try go_simp)
          refine wpAnyH_ready (rs := [11]) (by kernel_rfl) (by simp) (AllReadyH.cons rfl (fun K hK => ?_) AllReadyH.nil)
          go_simp
          refine hK.out _ _ hHeld (fun hHeld => ?_)
          clear hK K
          refine wpAnyH_done (by kernel_rfl) ?_ _
          clear HVV HVW HRB HNR HRL HCc HV0 hHeld
          go_upto_region 11 with fail
          have HBc := Lib.hid (HB8.out.trans (HVc.out.mono HB8.out.size))
          have HFb13 : Hid (BF Vc rb (.slice Ab fb.ts.length cb) (.slice Eb fb.ow.length db) fb.p fb.tm) := Blk.below HFb.out HVc.out (Blk.lt HFb.out)
          have Hb13 := Lib.hid (Hb.out.below HVc.out)
          have e1 := HE1.out
          subst e1
          have HSM := Lib.hid (same_yes (p := fb.p) (t := fb.tm) Hb13.out.inF Hc.out.inF (by have := HFB.out.1; omega) (by have := HFB.out.2; omega))
          by_cases hz : 0 ≤ zc
          · have tz : decide (0 ≤ zc) = true := by simpa using hz
            have e2 : yb = zc + k := by have := HE2.out; rwa [if_pos hz] at this
            have hw : wrap64 (zc + k) = zc + k := by have := HVC.out; unfold wrap64; have := HKM.out; rw [List.length_drop, HM.out] at *; omega
            subst e2
            have ty : ((zc + (k : Int)) == (zc + (k : Int))) = true := by simp
            go_wp2_with (with_reducible (show wpList _ _ _ _ _ _); refine loadF_halt rfl (.tmp 11) rfl ?_)
            refine Lib.hid ?_
            refine ld_flatg (by rfl) (.tmp 11) rfl rb rfl HFb13.out ?_
            go_wp2_with (with_reducible (show wpList _ _ _ _ _ _); refine loadF_halt rfl (.tmp 13) rfl ?_)
            refine Lib.hid ?_
            refine ld_flatg (by rfl) (.tmp 13) rfl rc rfl HFc.out ?_
            go_wp2_with (first
              | (go_at_call 12; (with_reducible refine HSM.out.mono ?_); rintro e w9 ⟨rfl, h9⟩; have HB9 := Lib.hid (HBc.out.trans (h9.mono HBc.out.size)); have HLV9 := Lib.hid (HLV.out _ HB9.out); clear h9)
              | (go_at_call 9; (with_reducible refine HLV9.out.mono ?_); rintro e wA ⟨rfl, hA⟩; have HBF9 := Lib.hid (HB9.out.trans (hA.mono HB9.out.size)); clear hA))
            go_ret
            exact ⟨rfl, HBF9.out⟩
          · have tz : decide (0 ≤ zc) = false := by simpa using hz
            have e2 : yb = zc := by have := HE2.out; rwa [if_neg hz] at this
            subst e2
            have ty : (yb == yb) = true := by simp
            go_wp2_with (with_reducible (show wpList _ _ _ _ _ _); refine loadF_halt rfl (.tmp 11) rfl ?_)
            refine Lib.hid ?_
            refine ld_flatg (by rfl) (.tmp 11) rfl rb rfl HFb13.out ?_
            go_wp2_with (with_reducible (show wpList _ _ _ _ _ _); refine loadF_halt rfl (.tmp 13) rfl ?_)
            refine Lib.hid ?_
            refine ld_flatg (by rfl) (.tmp 13) rfl rc rfl HFc.out ?_
            go_wp2_with (first
              | (go_at_call 12; (with_reducible refine HSM.out.mono ?_); rintro e w9 ⟨rfl, h9⟩; have HB9 := Lib.hid (HBc.out.trans (h9.mono HBc.out.size)); have HLV9 := Lib.hid (HLV.out _ HB9.out); clear h9)
              | (go_at_call 9; (with_reducible refine HLV9.out.mono ?_); rintro e wA ⟨rfl, hA⟩; have HBF9 := Lib.hid (HB9.out.trans (hA.mono HB9.out.size)); clear hA))
            go_ret
            exact ⟨rfl, HBF9.out⟩
    · go_simp
      have hal := (Below.refl V.heap.size V).alloc (Nat.le_refl _) (.cells #[.slice none 0 0, .int .u64 0, .int .u64 0, .int .u64 0, .int .u64 0, .int .u64 0, .int .u64 0, .int .u64 0, .int .u64 0, .int .u64 0, .int .u64 0, .int .u64 0, .int .u64 0, .int .u64 0, .int .u64 0, .int .u64 0, .int .u64 0, .slice none 0 0, .int .i64 0] 30)
      have hrb := Blk.new V 30 #[.slice none 0 0, .int .u64 0, .int .u64 0, .int .u64 0, .int .u64 0, .int .u64 0, .int .u64 0, .int .u64 0, .int .u64 0, .int .u64 0, .int .u64 0, .int .u64 0, .int .u64 0, .int .u64 0, .int .u64 0, .int .u64 0, .int .u64 0, .slice none 0 0, .int .i64 0]
      have HRL : Hid (V0.heap.size ≤ V.heap.size) := HVV.out.size
      have HVW := Lib.hid (HVW.out.trans (hal.mono HVW.out.size))
      have HVV := Lib.hid (HVV.out.trans (hal.mono HVV.out.size))
      refine hK.out _ _ (HSR.out _ HVW.out) (fun hHeld => ?_)
      clear hK K hal
      obtain ⟨ra, hrbe⟩ : ∃ q, V.heap.size = q := ⟨_, rfl⟩
      rw [hrbe] at hrb HRL
      (try rw [hrbe])
      have HRB := Lib.hid hrb
      clear hrb hrbe
      generalize V.alloc (.cells #[.slice none 0 0, .int .u64 0, .int .u64 0, .int .u64 0, .int .u64 0, .int .u64 0, .int .u64 0, .int .u64 0, .int .u64 0, .int .u64 0, .int .u64 0, .int .u64 0, .int .u64 0, .int .u64 0, .int .u64 0, .int .u64 0, .int .u64 0, .slice none 0 0, .int .i64 0] 30) = V at *
      refine wpAnyH_ready (rs := [5]) (by kernel_rfl) (by simp) (AllReadyH.cons rfl (fun K hK => ?_) AllReadyH.nil)
      go_simp
      go_at_call 11
      (with_reducible refine (HPA.out V HVW.out).mono ?_)
      rintro er w5 ⟨F5, O5, rfl, h5, hb5⟩
      obtain ⟨Aa, ca, rfl, -⟩ := own_tsIn h5.tk
      obtain ⟨Ea, da, rfl, -⟩ := own_numsIn h5.ow
      have HNR : Hid (∀ k, OwnB (.slice Aa fa.ts.length ca) (.slice Ea fa.ow.length da) k → k ≠ ra) := fun k hk => by have := (h5.lt hk).1; have := HRB.out.lt; omega
      have HRB := Lib.hid (HRB.out.below hb5 HRB.out.lt)
      have HCa : Hid (V0.heap.size ≤ V.heap.size) := HVV.out.size
      have HVW := Lib.hid (HVW.out.trans (hb5.mono HVW.out.size))
      have HVV := Lib.hid (HVV.out.trans (hb5.mono HVV.out.size))
      have Ha := Lib.hid h5
      (try (go_wp2_with fail))
      refine hK.out _ _ (HSR.out _ HVW.out) (fun hHeld => ?_)
      clear hK K h5 hb5
      obtain ⟨Ca, hC5⟩ : ∃ q, V.heap.size = q := ⟨_, rfl⟩
      rw [hC5] at Ha HCa
      clear hC5
      generalize w5 = V at *
      (try go_simp)
      refine wpAnyH_take (i := 6) (v := ?_) rfl (by kernel_rfl) (by kernel_rfl) (by kernel_rfl) (fun _ _ _ h => h) (Or.inl ⟨by rfl, fun X hX => by (go_simp <;> with_reducible rfl)⟩) hHeld ?_
      go_simp
      refine wpAnyH_take (i := 7) (v := ?_) rfl (by kernel_rfl) (by kernel_rfl) (by kernel_rfl) (fun _ _ _ h => h) (Or.inl ⟨by rfl, fun X hX => by (go_simp <;> with_reducible rfl)⟩) hHeld ?_
      go_simp
      refine wpAnyH_take (i := 8) (v := ?_) rfl (by kernel_rfl) (by kernel_rfl) (by kernel_rfl) (fun _ _ _ h => h) (Or.inl ⟨by rfl, fun X hX => by (go_simp <;> with_reducible rfl)⟩) hHeld ?_
      go_simp
      refine wpAnyH_ready (rs := [10]) (by kernel_rfl) (by simp) (AllReadyH.cons rfl (fun K hK => ?_) AllReadyH.nil)
      refine step_st_flat rfl (.tmp 9) (.tmp 42) rfl ra rfl rfl rfl rfl _ HRB.out rfl ?_
      have hb9 := (((But.of_below (X := fun k => V0.heap.size ≤ k) HVV.out).row ra (flL (.slice Aa fa.ts.length ca) (.slice Ea fa.ow.length da) fa.p fa.tm).toArray (.inr HRL.out))).below (Nat.le_refl _) fun k _ q => q
      have HVa := Lib.hid (HV0.out.trans (hb9.mono HV0.out.size))
      have HFa : Hid (BF (V.setRow ra (flL (.slice Aa fa.ts.length ca) (.slice Ea fa.ow.length da) fa.p fa.tm).toArray) ra (.slice Aa fa.ts.length ca) (.slice Ea fa.ow.length da) fa.p fa.tm) := BF.row HRB.out
      have Ha := Lib.hid (Ha.out.row ra (flL (.slice Aa fa.ts.length ca) (.slice Ea fa.ow.length da) fa.p fa.tm).toArray HNR.out)
      refine hK.out _ _ (HSR.out _ HVa.out) (fun hHeld => ?_)
      clear hK K hb9
      generalize V.setRow ra (flL (.slice Aa fa.ts.length ca) (.slice Ea fa.ow.length da) fa.p fa.tm).toArray = Va at *
      (try go_simp)
      refine wpAnyH_ready (rs := [11]) (by kernel_rfl) (by simp) (AllReadyH.cons rfl (fun K hK => ?_) AllReadyH.nil)
      go_simp
      refine hK.out _ _ hHeld (fun hHeld => ?_)
      clear hK K
      refine wpAnyH_done (by kernel_rfl) ?_ _
      clear HVV HVW HRB HNR HRL HCa HV0 hHeld
      go_upto_region 7 with fail
      have HBA := Lib.hid (HB3.out.trans (HVa.out.mono HB3.out.size))
      have HBF7 : Hid (BF Va b7 (.slice A0 0 k0) (.slice A1 3 k1) spP 0) := Blk.below HBF3.out HVa.out (Blk.lt HBF3.out)
      have HPBa := Lib.hid (HPB.out Va HVa.out)
      go_upto_region 8 with (first
        | (with_reducible (show wpList _ _ _ _ _ _); refine ld_flat rfl (.tmp 7) rfl b7 rfl HBF7.out ?_)
        | (go_at_call 11; (with_reducible refine HPBa.out.mono ?_); rintro e w7 ⟨F7, O7, rfl, h7, hb7⟩; obtain ⟨Ab, cb, rfl, -⟩ := own_tsIn h7.tk; obtain ⟨Eb, db, rfl, -⟩ := own_numsIn h7.ow; have HB7 := Lib.hid hb7; have H7 := Lib.hid h7; clear h7 hb7)
        | (with_reducible (show wpList _ _ _ _ _ _); refine st_flat rfl (.tmp 11) (.tmp 49) rfl w7.heap.size rfl rfl rfl rfl _ (Blk.new w7 _ _) rfl ?_))
      have HFb : Hid (BF ((w7.alloc (.cells #[.slice none 0 0, .int .u64 0, .int .u64 0, .int .u64 0, .int .u64 0, .int .u64 0, .int .u64 0, .int .u64 0, .int .u64 0, .int .u64 0, .int .u64 0, .int .u64 0, .int .u64 0, .int .u64 0, .int .u64 0, .int .u64 0, .int .u64 0, .slice none 0 0, .int .i64 0] 30)).setRow w7.heap.size (flL (.slice Ab fb.ts.length cb) (.slice Eb fb.ow.length db) fb.p fb.tm).toArray) w7.heap.size (.slice Ab fb.ts.length cb) (.slice Eb fb.ow.length db) fb.p fb.tm) := BF.row (Blk.new w7 _ _)
      have Hb : Hid (OwnF ((w7.alloc (.cells #[.slice none 0 0, .int .u64 0, .int .u64 0, .int .u64 0, .int .u64 0, .int .u64 0, .int .u64 0, .int .u64 0, .int .u64 0, .int .u64 0, .int .u64 0, .int .u64 0, .int .u64 0, .int .u64 0, .int .u64 0, .int .u64 0, .int .u64 0, .slice none 0 0, .int .i64 0] 30)).setRow w7.heap.size (flL (.slice Ab fb.ts.length cb) (.slice Eb fb.ow.length db) fb.p fb.tm).toArray) Va.heap.size (.slice Ab fb.ts.length cb) (.slice Eb fb.ow.length db) fb.ts fb.ow) := (H7.out.below ((Below.refl _ _).alloc (Nat.le_refl _) _)).row _ _ fun k hk => by have := (H7.out.lt hk).2; omega
      have HVb : Hid (Below Va.heap.size Va ((w7.alloc (.cells #[.slice none 0 0, .int .u64 0, .int .u64 0, .int .u64 0, .int .u64 0, .int .u64 0, .int .u64 0, .int .u64 0, .int .u64 0, .int .u64 0, .int .u64 0, .int .u64 0, .int .u64 0, .int .u64 0, .int .u64 0, .int .u64 0, .int .u64 0, .slice none 0 0, .int .i64 0] 30)).setRow w7.heap.size (flL (.slice Ab fb.ts.length cb) (.slice Eb fb.ow.length db) fb.p fb.tm).toArray)) := (((But.of_below (X := fun k => Va.heap.size ≤ k) HB7.out).alloc _).row _ _ (.inr HB7.out.size)).below (Nat.le_refl _) fun k _ q => q
      generalize (w7.alloc (.cells #[.slice none 0 0, .int .u64 0, .int .u64 0, .int .u64 0, .int .u64 0, .int .u64 0, .int .u64 0, .int .u64 0, .int .u64 0, .int .u64 0, .int .u64 0, .int .u64 0, .int .u64 0, .int .u64 0, .int .u64 0, .int .u64 0, .int .u64 0, .slice none 0 0, .int .i64 0] 30)).setRow w7.heap.size (flL (.slice Ab fb.ts.length cb) (.slice Eb fb.ow.length db) fb.p fb.tm).toArray = Vb at *
      generalize w7.heap.size = rb at *
      clear HB7 H7 HPBa HBF7 HPA HPB HSR
      have HBFa := Lib.hid (Blk.below HFa.out HVb.out (Blk.lt HFa.out))
      have Ha8 := Lib.hid (Ha.out.below HVb.out)
      have HB8 := Lib.hid (HBA.out.trans (HVb.out.mono HBA.out.size))
      clear HFa Ha HBA
      by_cases hx : 0 ≤ xa
      · have tx : decide (0 ≤ xa) = true := by simpa using hx
        have hfy := HSP.out.1 (by show xa ≠ -1; omega)
        have e1 : fb = fa := congrArg Prod.fst hfy
        have e2 : yb = xa := congrArg Prod.snd hfy
        subst e1 e2
        have ty : (yb == yb) = true := by simp
        have HSM := Lib.hid (same_yes (p := fb.p) (t := fb.tm) Ha8.out.inF Hb.out.inF (by have := HFB.out.1; omega) (by have := HFB.out.2; omega))
        go_wp2_with (with_reducible (show wpList _ _ _ _ _ _); refine loadF_halt rfl (.tmp 9) rfl ?_)
        refine Lib.hid ?_
        refine ld_flatg (by rfl) (.tmp 9) rfl ra rfl HBFa.out ?_
        go_wp2_with (with_reducible (show wpList _ _ _ _ _ _); refine loadF_halt rfl (.tmp 11) rfl ?_)
        refine Lib.hid ?_
        refine ld_flatg (by rfl) (.tmp 11) rfl rb rfl HFb.out ?_
        go_wp2_with (first
          | (go_at_call 12; (with_reducible refine HSM.out.mono ?_); rintro e w9 ⟨rfl, h9⟩; have HB9 := Lib.hid (HB8.out.trans (h9.mono HB8.out.size)); have HLV9 := Lib.hid (HLV.out _ HB9.out); clear h9)
          | (go_at_call 9; (with_reducible refine HLV9.out.mono ?_); rintro e wA ⟨rfl, hA⟩; have HBF9 := Lib.hid (HB9.out.trans (hA.mono HB9.out.size)); clear hA))
        go_ret
        exact ⟨rfl, HBF9.out⟩
      · have tx : decide (0 ≤ xa) = false := by simpa using hx
        obtain rfl : xa = -1 := by have := HVA.out; omega
        obtain ⟨EA2, hEA2⟩ : ∃ x, (if ecap = k then EA else Option.map (fun x => x.add (k * 5)) EA) = x := ⟨_, rfl⟩
        have hE2 : EvIn w EA2 (l.drop k) := fun i e he => by
          have hil := (List.getElem?_eq_some_iff.1 he).1
          rw [List.length_drop, HM.out] at hil
          have hne : ecap ≠ k := by omega
          rw [if_neg hne] at hEA2
          obtain ⟨-, b0, o0, rfl, -⟩ := HEL.out (k + i) e (by rw [List.getElem?_drop] at he; exact he)
          have hd := (HEL.out.drop k) i e he
          rw [← hEA2]
          simp only [Option.map_some, Addr.add_mid]
          exact hd
        obtain ⟨fc, zc, hrc⟩ : ∃ fc zc, playP ps fa (l.drop k) 0 = (fc, zc) := ⟨_, _, rfl⟩
        have hld : (l.drop k).length = m - k := by rw [List.length_drop, HM.out]
        have hvc := playP_val ps (l.drop k) fa 0
        have hs2 := HSP.out.2 rfl
        (try dsimp only at hs2)
        rw [hrc] at hs2 hvc
        (try dsimp only at hs2 hvc)
        obtain ⟨e1, e2⟩ := hs2
        have hPC : ∀ X, Below Vb.heap.size Vb X → Calls Tryd.prog 11 #[.agg (flL (.slice Aa fa.ts.length ca) (.slice Ea fa.ow.length da) fa.p fa.tm).toArray, .slice PA ps.length pcap, .slice EA2 (m - k) (ecap - k)] X (PlaG X (fc, zc)) := fun X hX => by
          have := play_any (f := fa) (l := l.drop k) (Ha8.out.below hX).inF pcap (ecap - k) (by rw [hld]; have := HFA.out.1; omega) (by have := HFA.out.2.1; omega) (HG.out.below ((HB8.out.mono HG.out.le).trans (hX.mono (Nat.le_trans HG.out.le HB8.out.size)))) HFA.out.2.2 (hE2.below (HB8.out.trans (hX.mono HB8.out.size)))
          rw [hrc, hld] at this; exact this
        have HPC := Lib.hid hPC; have HVC := Lib.hid hvc; have HE1 := Lib.hid e1; have HE2 := Lib.hid e2
        have HS10 : Hid (∀ X, Below Vb.heap.size Vb X → X.rangeAt ra 0 (flL (.slice Aa fa.ts.length ca) (.slice Ea fa.ow.length da) fa.p fa.tm)) := fun X hX => BF.all (Blk.below HBFa.out hX (Blk.lt HBFa.out))
        clear hE2 hrc hld hPC hvc e1 e2
        go_upto_region 10 with fail
        refine wp_region_held_drew (S := fun X => X.rangeAt ra 0 (flL (.slice Aa fa.ts.length ca) (.slice Ea fa.ow.length da) fa.p fa.tm)) (by kernel_rfl) (HS10.out _ ((Below.refl _ _).drew)) (fun hHeld => ?_)
        show wpAnyH _ _ _ _ _ _ _ _ _
        try dsimp only at hHeld
        have HVW := Lib.hid ((Below.refl Vb.heap.size Vb).drew)
        generalize Vb.drew = V at *
        obtain ⟨V0, hV0⟩ : ∃ V0, V = V0 := ⟨_, rfl⟩
        have HVV : Hid (Below V0.heap.size V0 V) := by rw [← hV0]; exact Below.refl _ _
        have HV0 : Hid (Below Vb.heap.size Vb V0) := by rw [← hV0]; exact HVW.out
        clear hV0
        refine wpAnyH_take (i := 0) (v := .agg (flL (.slice Aa fa.ts.length ca) (.slice Ea fa.ow.length da) fa.p fa.tm).toArray) rfl (by kernel_rfl) (by kernel_rfl) (by kernel_rfl) (fun _ _ _ h => h) (yieldsIf_load_mid (by rfl) 30 (.tmp 9) rfl ra 0 rfl (flL (.slice Aa fa.ts.length ca) (.slice Ea fa.ow.length da) fa.p fa.tm) _ (fun X' h => h) under30 rfl (by rw [infoFlat, flL_len])) hHeld ?_
        go_simp
        refine wpAnyH_take (i := 1) (v := ?_) rfl (by kernel_rfl) (by kernel_rfl) (by kernel_rfl) (fun _ _ _ h => h) (Or.inl ⟨by rfl, fun X hX => by (go_simp <;> with_reducible rfl)⟩) hHeld ?_
        go_simp
        refine wpAnyH_take (i := 2) (v := ?_) rfl (by kernel_rfl) (by kernel_rfl) (by kernel_rfl) (fun _ _ _ h => h) (Or.inl ⟨by rfl, fun X hX => by (go_simp <;> with_reducible rfl)⟩) hHeld ?_
        go_simp
        refine wpAnyH_take (i := 3) (v := ?_) rfl (by kernel_rfl) (by kernel_rfl) (by kernel_rfl) (fun _ _ _ h => h) (Or.inl ⟨by rfl, fun X hX => by (go_simp <;> with_reducible rfl)⟩) hHeld ?_
        go_simp
        refine wpAnyH_take (i := 4) (v := ?_) rfl (by kernel_rfl) (by kernel_rfl) (by kernel_rfl) (fun _ _ _ h => h) (Or.inl ⟨by rfl, fun X hX => by (go_simp <;> with_reducible rfl)⟩) hHeld ?_
        go_simp
        refine wpAnyH_ready (rs := [5, 9]) (by kernel_rfl) (by simp) (AllReadyH.cons rfl (fun K hK => ?_) (AllReadyH.cons rfl (fun K hK => ?_) AllReadyH.nil))
        · go_simp
          go_at_call 11
          (with_reducible refine (HPC.out V HVW.out).mono ?_)
          rintro er w5 ⟨F5, O5, rfl, h5, hb5⟩
          obtain ⟨Ac, cc, rfl, -⟩ := own_tsIn h5.tk
          obtain ⟨Ec, dc, rfl, -⟩ := own_numsIn h5.ow
          have HCc : Hid (V0.heap.size ≤ V.heap.size) := HVV.out.size
          have HVW := Lib.hid (HVW.out.trans (hb5.mono HVW.out.size))
          have HVV := Lib.hid (HVV.out.trans (hb5.mono HVV.out.size))
          have Hc := Lib.hid h5
          (try (go_wp2_with fail))
          refine hK.out _ _ (HS10.out _ HVW.out) (fun hHeld => ?_)
          clear hK K h5 hb5
          obtain ⟨Cc, hC5⟩ : ∃ q, V.heap.size = q := ⟨_, rfl⟩
          rw [hC5] at Hc HCc
          clear hC5
          generalize w5 = V at *
          (try go_simp)
          refine wpAnyH_take (i := 6) (v := ?_) rfl (by kernel_rfl) (by kernel_rfl) (by kernel_rfl) (fun _ _ _ h => h) (Or.inl ⟨by rfl, fun X hX => by (go_simp <;> with_reducible rfl)⟩) hHeld ?_
          go_simp
          refine wpAnyH_take (i := 7) (v := ?_) rfl (by kernel_rfl) (by kernel_rfl) (by kernel_rfl) (fun _ _ _ h => h) (Or.inl ⟨by rfl, fun X hX => by (go_simp <;> with_reducible rfl)⟩) hHeld ?_
          go_simp
          refine wpAnyH_take (i := 8) (v := ?_) rfl (by kernel_rfl) (by kernel_rfl) (by kernel_rfl) (fun _ _ _ h => h) (Or.inl ⟨by rfl, fun X hX => by (go_simp <;> with_reducible rfl)⟩) hHeld ?_
          go_simp
          refine wpAnyH_ready (rs := [9]) (by kernel_rfl) (by simp) (AllReadyH.cons rfl (fun K hK => ?_) AllReadyH.nil)
          go_simp
          have hal := (Below.refl V.heap.size V).alloc (Nat.le_refl _) (.cells #[.slice none 0 0, .int .u64 0, .int .u64 0, .int .u64 0, .int .u64 0, .int .u64 0, .int .u64 0, .int .u64 0, .int .u64 0, .int .u64 0, .int .u64 0, .int .u64 0, .int .u64 0, .int .u64 0, .int .u64 0, .int .u64 0, .int .u64 0, .slice none 0 0, .int .i64 0] 30)
          have hrb := Blk.new V 30 #[.slice none 0 0, .int .u64 0, .int .u64 0, .int .u64 0, .int .u64 0, .int .u64 0, .int .u64 0, .int .u64 0, .int .u64 0, .int .u64 0, .int .u64 0, .int .u64 0, .int .u64 0, .int .u64 0, .int .u64 0, .int .u64 0, .int .u64 0, .slice none 0 0, .int .i64 0]
          have HRL : Hid (V0.heap.size ≤ V.heap.size) := HVV.out.size
          have HVW := Lib.hid (HVW.out.trans (hal.mono HVW.out.size))
          have HVV := Lib.hid (HVV.out.trans (hal.mono HVV.out.size))
          have HNR : Hid (∀ k, OwnB (.slice Ac fc.ts.length cc) (.slice Ec fc.ow.length dc) k → k ≠ V.heap.size) := fun k hk => by have := (Hc.out.lt hk).2; omega
          have Hc := Lib.hid (Hc.out.below hal)
          refine hK.out _ _ (HS10.out _ HVW.out) (fun hHeld => ?_)
          clear hK K hal
          obtain ⟨rc, hrbe⟩ : ∃ q, V.heap.size = q := ⟨_, rfl⟩
          rw [hrbe] at hrb HRL HNR
          (try rw [hrbe])
          have HRB := Lib.hid hrb
          clear hrb hrbe
          generalize V.alloc (.cells #[.slice none 0 0, .int .u64 0, .int .u64 0, .int .u64 0, .int .u64 0, .int .u64 0, .int .u64 0, .int .u64 0, .int .u64 0, .int .u64 0, .int .u64 0, .int .u64 0, .int .u64 0, .int .u64 0, .int .u64 0, .int .u64 0, .int .u64 0, .slice none 0 0, .int .i64 0] 30) = V at *
          refine wpAnyH_ready (rs := [10]) (by kernel_rfl) (by simp) (AllReadyH.cons rfl (fun K hK => ?_) AllReadyH.nil)
          refine step_st_flat rfl (.tmp 13) (.tmp 71) rfl rc rfl rfl rfl rfl _ HRB.out rfl ?_
          have hb9 := (((But.of_below (X := fun k => V0.heap.size ≤ k) HVV.out).row rc (flL (.slice Ac fc.ts.length cc) (.slice Ec fc.ow.length dc) fc.p fc.tm).toArray (.inr HRL.out))).below (Nat.le_refl _) fun k _ q => q
          have HVc := Lib.hid (HV0.out.trans (hb9.mono HV0.out.size))
          have HFc : Hid (BF (V.setRow rc (flL (.slice Ac fc.ts.length cc) (.slice Ec fc.ow.length dc) fc.p fc.tm).toArray) rc (.slice Ac fc.ts.length cc) (.slice Ec fc.ow.length dc) fc.p fc.tm) := BF.row HRB.out
          have Hc := Lib.hid (Hc.out.row rc (flL (.slice Ac fc.ts.length cc) (.slice Ec fc.ow.length dc) fc.p fc.tm).toArray HNR.out)
          refine hK.out _ _ (HS10.out _ HVc.out) (fun hHeld => ?_)
          clear hK K hb9
          generalize V.setRow rc (flL (.slice Ac fc.ts.length cc) (.slice Ec fc.ow.length dc) fc.p fc.tm).toArray = Vc at *
          (try go_simp)
          refine wpAnyH_ready (rs := [11]) (by kernel_rfl) (by simp) (AllReadyH.cons rfl (fun K hK => ?_) AllReadyH.nil)
          go_simp
          refine hK.out _ _ hHeld (fun hHeld => ?_)
          clear hK K
          refine wpAnyH_done (by kernel_rfl) ?_ _
          clear HVV HVW HRB HNR HRL HCc HV0 hHeld
          go_upto_region 11 with fail
          have HBc := Lib.hid (HB8.out.trans (HVc.out.mono HB8.out.size))
          have HFb13 : Hid (BF Vc rb (.slice Ab fb.ts.length cb) (.slice Eb fb.ow.length db) fb.p fb.tm) := Blk.below HFb.out HVc.out (Blk.lt HFb.out)
          have Hb13 := Lib.hid (Hb.out.below HVc.out)
          have e1 := HE1.out
          subst e1
          have HSM := Lib.hid (same_yes (p := fb.p) (t := fb.tm) Hb13.out.inF Hc.out.inF (by have := HFB.out.1; omega) (by have := HFB.out.2; omega))
          by_cases hz : 0 ≤ zc
          · have tz : decide (0 ≤ zc) = true := by simpa using hz
            have e2 : yb = zc + k := by have := HE2.out; rwa [if_pos hz] at this
            have hw : wrap64 (zc + k) = zc + k := by have := HVC.out; unfold wrap64; have := HKM.out; rw [List.length_drop, HM.out] at *; omega
            subst e2
            have ty : ((zc + (k : Int)) == (zc + (k : Int))) = true := by simp
            go_wp2_with (with_reducible (show wpList _ _ _ _ _ _); refine loadF_halt rfl (.tmp 11) rfl ?_)
            refine Lib.hid ?_
            refine ld_flatg (by rfl) (.tmp 11) rfl rb rfl HFb13.out ?_
            go_wp2_with (with_reducible (show wpList _ _ _ _ _ _); refine loadF_halt rfl (.tmp 13) rfl ?_)
            refine Lib.hid ?_
            refine ld_flatg (by rfl) (.tmp 13) rfl rc rfl HFc.out ?_
            go_wp2_with (first
              | (go_at_call 12; (with_reducible refine HSM.out.mono ?_); rintro e w9 ⟨rfl, h9⟩; have HB9 := Lib.hid (HBc.out.trans (h9.mono HBc.out.size)); have HLV9 := Lib.hid (HLV.out _ HB9.out); clear h9)
              | (go_at_call 9; (with_reducible refine HLV9.out.mono ?_); rintro e wA ⟨rfl, hA⟩; have HBF9 := Lib.hid (HB9.out.trans (hA.mono HB9.out.size)); clear hA))
            go_ret
            exact ⟨rfl, HBF9.out⟩
          · have tz : decide (0 ≤ zc) = false := by simpa using hz
            have e2 : yb = zc := by have := HE2.out; rwa [if_neg hz] at this
            subst e2
            have ty : (yb == yb) = true := by simp
            go_wp2_with (with_reducible (show wpList _ _ _ _ _ _); refine loadF_halt rfl (.tmp 11) rfl ?_)
            refine Lib.hid ?_
            refine ld_flatg (by rfl) (.tmp 11) rfl rb rfl HFb13.out ?_
            go_wp2_with (with_reducible (show wpList _ _ _ _ _ _); refine loadF_halt rfl (.tmp 13) rfl ?_)
            refine Lib.hid ?_
            refine ld_flatg (by rfl) (.tmp 13) rfl rc rfl HFc.out ?_
            go_wp2_with (first
              | (go_at_call 12; (with_reducible refine HSM.out.mono ?_); rintro e w9 ⟨rfl, h9⟩; have HB9 := Lib.hid (HBc.out.trans (h9.mono HBc.out.size)); have HLV9 := Lib.hid (HLV.out _ HB9.out); clear h9)
              | (go_at_call 9; (with_reducible refine HLV9.out.mono ?_); rintro e wA ⟨rfl, hA⟩; have HBF9 := Lib.hid (HB9.out.trans (hA.mono HB9.out.size)); clear hA))
            go_ret
            exact ⟨rfl, HBF9.out⟩
        · go_simp
          have hal := (Below.refl V.heap.size V).alloc (Nat.le_refl _) (.cells #[.slice none 0 0, .int .u64 0, .int .u64 0, .int .u64 0, .int .u64 0, .int .u64 0, .int .u64 0, .int .u64 0, .int .u64 0, .int .u64 0, .int .u64 0, .int .u64 0, .int .u64 0, .int .u64 0, .int .u64 0, .int .u64 0, .int .u64 0, .slice none 0 0, .int .i64 0] 30)
          have hrb := Blk.new V 30 #[.slice none 0 0, .int .u64 0, .int .u64 0, .int .u64 0, .int .u64 0, .int .u64 0, .int .u64 0, .int .u64 0, .int .u64 0, .int .u64 0, .int .u64 0, .int .u64 0, .int .u64 0, .int .u64 0, .int .u64 0, .int .u64 0, .int .u64 0, .slice none 0 0, .int .i64 0]
          have HRL : Hid (V0.heap.size ≤ V.heap.size) := HVV.out.size
          have HVW := Lib.hid (HVW.out.trans (hal.mono HVW.out.size))
          have HVV := Lib.hid (HVV.out.trans (hal.mono HVV.out.size))
          refine hK.out _ _ (HS10.out _ HVW.out) (fun hHeld => ?_)
          clear hK K hal
          obtain ⟨rc, hrbe⟩ : ∃ q, V.heap.size = q := ⟨_, rfl⟩
          rw [hrbe] at hrb HRL
          (try rw [hrbe])
          have HRB := Lib.hid hrb
          clear hrb hrbe
          generalize V.alloc (.cells #[.slice none 0 0, .int .u64 0, .int .u64 0, .int .u64 0, .int .u64 0, .int .u64 0, .int .u64 0, .int .u64 0, .int .u64 0, .int .u64 0, .int .u64 0, .int .u64 0, .int .u64 0, .int .u64 0, .int .u64 0, .int .u64 0, .int .u64 0, .slice none 0 0, .int .i64 0] 30) = V at *
          refine wpAnyH_ready (rs := [5]) (by kernel_rfl) (by simp) (AllReadyH.cons rfl (fun K hK => ?_) AllReadyH.nil)
          go_simp
          go_at_call 11
          (with_reducible refine (HPC.out V HVW.out).mono ?_)
          rintro er w5 ⟨F5, O5, rfl, h5, hb5⟩
          obtain ⟨Ac, cc, rfl, -⟩ := own_tsIn h5.tk
          obtain ⟨Ec, dc, rfl, -⟩ := own_numsIn h5.ow
          have HNR : Hid (∀ k, OwnB (.slice Ac fc.ts.length cc) (.slice Ec fc.ow.length dc) k → k ≠ rc) := fun k hk => by have := (h5.lt hk).1; have := HRB.out.lt; omega
          have HRB := Lib.hid (HRB.out.below hb5 HRB.out.lt)
          have HCc : Hid (V0.heap.size ≤ V.heap.size) := HVV.out.size
          have HVW := Lib.hid (HVW.out.trans (hb5.mono HVW.out.size))
          have HVV := Lib.hid (HVV.out.trans (hb5.mono HVV.out.size))
          have Hc := Lib.hid h5
          (try (go_wp2_with fail))
          refine hK.out _ _ (HS10.out _ HVW.out) (fun hHeld => ?_)
          clear hK K h5 hb5
          obtain ⟨Cc, hC5⟩ : ∃ q, V.heap.size = q := ⟨_, rfl⟩
          rw [hC5] at Hc HCc
          clear hC5
          generalize w5 = V at *
          (try go_simp)
          refine wpAnyH_take (i := 6) (v := ?_) rfl (by kernel_rfl) (by kernel_rfl) (by kernel_rfl) (fun _ _ _ h => h) (Or.inl ⟨by rfl, fun X hX => by (go_simp <;> with_reducible rfl)⟩) hHeld ?_
          go_simp
          refine wpAnyH_take (i := 7) (v := ?_) rfl (by kernel_rfl) (by kernel_rfl) (by kernel_rfl) (fun _ _ _ h => h) (Or.inl ⟨by rfl, fun X hX => by (go_simp <;> with_reducible rfl)⟩) hHeld ?_
          go_simp
          refine wpAnyH_take (i := 8) (v := ?_) rfl (by kernel_rfl) (by kernel_rfl) (by kernel_rfl) (fun _ _ _ h => h) (Or.inl ⟨by rfl, fun X hX => by (go_simp <;> with_reducible rfl)⟩) hHeld ?_
          go_simp
          refine wpAnyH_ready (rs := [10]) (by kernel_rfl) (by simp) (AllReadyH.cons rfl (fun K hK => ?_) AllReadyH.nil)
          refine step_st_flat rfl (.tmp 13) (.tmp 71) rfl rc rfl rfl rfl rfl _ HRB.out rfl ?_
          have hb9 := (((But.of_below (X := fun k => V0.heap.size ≤ k) HVV.out).row rc (flL (.slice Ac fc.ts.length cc) (.slice Ec fc.ow.length dc) fc.p fc.tm).toArray (.inr HRL.out))).below (Nat.le_refl _) fun k _ q => q
          have HVc := Lib.hid (HV0.out.trans (hb9.mono HV0.out.size))
          have HFc : Hid (BF (V.setRow rc (flL (.slice Ac fc.ts.length cc) (.slice Ec fc.ow.length dc) fc.p fc.tm).toArray) rc (.slice Ac fc.ts.length cc) (.slice Ec fc.ow.length dc) fc.p fc.tm) := BF.row HRB.out
          have Hc := Lib.hid (Hc.out.row rc (flL (.slice Ac fc.ts.length cc) (.slice Ec fc.ow.length dc) fc.p fc.tm).toArray HNR.out)
          refine hK.out _ _ (HS10.out _ HVc.out) (fun hHeld => ?_)
          clear hK K hb9
          generalize V.setRow rc (flL (.slice Ac fc.ts.length cc) (.slice Ec fc.ow.length dc) fc.p fc.tm).toArray = Vc at *
          (try go_simp)
          refine wpAnyH_ready (rs := [11]) (by kernel_rfl) (by simp) (AllReadyH.cons rfl (fun K hK => ?_) AllReadyH.nil)
          go_simp
          refine hK.out _ _ hHeld (fun hHeld => ?_)
          clear hK K
          refine wpAnyH_done (by kernel_rfl) ?_ _
          clear HVV HVW HRB HNR HRL HCc HV0 hHeld
          go_upto_region 11 with fail
          have HBc := Lib.hid (HB8.out.trans (HVc.out.mono HB8.out.size))
          have HFb13 : Hid (BF Vc rb (.slice Ab fb.ts.length cb) (.slice Eb fb.ow.length db) fb.p fb.tm) := Blk.below HFb.out HVc.out (Blk.lt HFb.out)
          have Hb13 := Lib.hid (Hb.out.below HVc.out)
          have e1 := HE1.out
          subst e1
          have HSM := Lib.hid (same_yes (p := fb.p) (t := fb.tm) Hb13.out.inF Hc.out.inF (by have := HFB.out.1; omega) (by have := HFB.out.2; omega))
          by_cases hz : 0 ≤ zc
          · have tz : decide (0 ≤ zc) = true := by simpa using hz
            have e2 : yb = zc + k := by have := HE2.out; rwa [if_pos hz] at this
            have hw : wrap64 (zc + k) = zc + k := by have := HVC.out; unfold wrap64; have := HKM.out; rw [List.length_drop, HM.out] at *; omega
            subst e2
            have ty : ((zc + (k : Int)) == (zc + (k : Int))) = true := by simp
            go_wp2_with (with_reducible (show wpList _ _ _ _ _ _); refine loadF_halt rfl (.tmp 11) rfl ?_)
            refine Lib.hid ?_
            refine ld_flatg (by rfl) (.tmp 11) rfl rb rfl HFb13.out ?_
            go_wp2_with (with_reducible (show wpList _ _ _ _ _ _); refine loadF_halt rfl (.tmp 13) rfl ?_)
            refine Lib.hid ?_
            refine ld_flatg (by rfl) (.tmp 13) rfl rc rfl HFc.out ?_
            go_wp2_with (first
              | (go_at_call 12; (with_reducible refine HSM.out.mono ?_); rintro e w9 ⟨rfl, h9⟩; have HB9 := Lib.hid (HBc.out.trans (h9.mono HBc.out.size)); have HLV9 := Lib.hid (HLV.out _ HB9.out); clear h9)
              | (go_at_call 9; (with_reducible refine HLV9.out.mono ?_); rintro e wA ⟨rfl, hA⟩; have HBF9 := Lib.hid (HB9.out.trans (hA.mono HB9.out.size)); clear hA))
            go_ret
            exact ⟨rfl, HBF9.out⟩
          · have tz : decide (0 ≤ zc) = false := by simpa using hz
            have e2 : yb = zc := by have := HE2.out; rwa [if_neg hz] at this
            subst e2
            have ty : (yb == yb) = true := by simp
            go_wp2_with (with_reducible (show wpList _ _ _ _ _ _); refine loadF_halt rfl (.tmp 11) rfl ?_)
            refine Lib.hid ?_
            refine ld_flatg (by rfl) (.tmp 11) rfl rb rfl HFb13.out ?_
            go_wp2_with (with_reducible (show wpList _ _ _ _ _ _); refine loadF_halt rfl (.tmp 13) rfl ?_)
            refine Lib.hid ?_
            refine ld_flatg (by rfl) (.tmp 13) rfl rc rfl HFc.out ?_
            go_wp2_with (first
              | (go_at_call 12; (with_reducible refine HSM.out.mono ?_); rintro e w9 ⟨rfl, h9⟩; have HB9 := Lib.hid (HBc.out.trans (h9.mono HBc.out.size)); have HLV9 := Lib.hid (HLV.out _ HB9.out); clear h9)
              | (go_at_call 9; (with_reducible refine HLV9.out.mono ?_); rintro e wA ⟨rfl, hA⟩; have HBF9 := Lib.hid (HB9.out.trans (hA.mono HB9.out.size)); clear hA))
            go_ret
            exact ⟨rfl, HBF9.out⟩
end
end Go.Proofs.YtdelddkpbdnckaaDoor
