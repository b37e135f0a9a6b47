/- layer 31 (codec): rows of events and entries; Events, Entries. -/
import Derived.Test.YtchhenpijbecaaaDoorCe
import Derived.Test.YtchhenpijbecaaaDoorCh
import Derived.Deep.MidRow
namespace Go.Proofs.YtchhenpijbecaaaDoor
open Go.RowKit
set_option maxRecDepth 100000

theorem But.row {X : Nat → Prop} {a w : World} (h : But X a w) (g : Nat) (cs : Array Value) (hg : X g ∨ a.heap.size ≤ g) : But X a (w.setRow g cs) :=
  ⟨h.os, h.tape, h.output, by simpa using h.size, fun k hk hn => (setRow_other w g k cs (by rintro rfl; rcases hg with hg | hg; exact hn hg; omega)).trans (h.block k hk hn)⟩
/-- a draw, as the number that it stands for. -/
def toU (n : Int) : Nat := if n < 0 then (n + 18446744073709551616).toNat else n.toNat
theorem toU_back {n : Int} (h : B64 n) : wrap64 (toU n : Int) = n := by
  unfold B64 at h
  unfold toU wrap64; split <;> omega
theorem toU_of {n : Int} (h : B64 n) : IntKind.u64.wrap n = (toU n : Int) := by
  unfold B64 at h
  rw [IntKind.wrap_u64]
  unfold toU; split <;> omega
theorem toU_inj {m n : Int} (hm : B64 m) (hn : B64 n) (h : (toU m : Int) = toU n) : m = n := by
  rw [← toU_back hm, ← toU_back hn, h]

/-- an event's five cells. -/
def clV (x : I5) : List Value := [.int .i64 x.a, .int .i64 x.b, .int .i64 x.c, .int .i64 x.d, .int .i64 x.e]
theorem clV_len (x : I5) : (clV x).length = 5 := rfl
theorem clV_one (x : I5) : (clV x).toArray.all (·.oneCell') = true := by
  rw [Array.all_eq_true']
  intro v hv
  simp only [clV, List.mem_toArray, List.mem_cons, List.not_mem_nil, or_false] at hv
  rcases hv with rfl | rfl | rfl | rfl | rfl <;> rfl
theorem info5V : (Tryd.prog.info? 42).map (·.size) = some 5 := by kernel_rfl
theorem infoPV : (Tryd.prog.info? 42).map (fun i => (i.zero, i.size, i.bytes)) = some (some (.agg #[.int .i64 0, .int .i64 0, .int .i64 0, .int .i64 0, .int .i64 0]), 5, 40) := by kernel_rfl
/-- rows that may be read, below a block. -/
def RowsV (B : Nat) (w : World) (A : Option Addr) (L : List I5) : Prop :=
  ∀ (i : Nat) x, L[i]? = some x → ∃ b off, A = some ⟨b, off, none⟩ ∧ b < B ∧ w.rangeAt b (off + i * 5) (clV x)
theorem RowsV.below {B : Nat} {w w' : World} {A : Option Addr} {L : List I5} (h : RowsV B w A L) (hb : Below B w w') : RowsV B w' A L := fun i d hd => by
  obtain ⟨b, off, e, hlt, hr⟩ := h i d hd
  exact ⟨b, off, e, hlt, fun j u hu => (hb.cell (p := ⟨b, _, none⟩) hlt).trans (hr j u hu)⟩
theorem RowsV.mono {B B' : Nat} {w : World} {A : Option Addr} {L : List I5} (h : RowsV B w A L) (hB : B ≤ B') : RowsV B' w A L := fun i d hd => by
  obtain ⟨b, off, e, hlt, hr⟩ := h i d hd
  exact ⟨b, off, e, by omega, hr⟩
theorem RowsV.take {B : Nat} {w : World} {A : Option Addr} {L : List I5} (h : RowsV B w A L) (n : Nat) : RowsV B w A (L.take n) := fun i d hd => h i d (by
  rw [List.getElem?_take] at hd; split at hd; exact hd; cases hd)
/-- an event is stored whole. -/
theorem st5V {d : I5} {w : World} {ops : Array Oper} {rest : List Oper} {o : Oper} {a : Act} {Q : Exit → Act → World → Prop} (hgd : o.guard = none) (x y : Operand) (ho : o.op = .store 42 x y)
    (g : Nat) (hx : a.eval x = .pointer (some ⟨g, 0, none⟩)) (hy : a.eval y = .agg (clV d).toArray) (old : Array Value) (hg : Blk w g 42 old) (hold : old.size = 5)
    (h : wpList Tryd.prog ops Q rest (a.put o.dst undef) (w.setRow g (clV d).toArray)) : wpList Tryd.prog ops Q (o :: rest) a w :=
  wpList_store_row hgd 42 x y ho g _ hx hy 42 old hg (by rw [info5V, List.size_toArray, clV_len]) (by rw [hold, List.size_toArray, clV_len]) (clV_one d) h
def dsV (ts : List I5) : List Value := (ts.map clV).flatten
theorem dsV_cons (x : I5) (r : List I5) : dsV (x :: r) = clV x ++ dsV r := by unfold dsV; rw [List.map_cons, List.flatten_cons]
theorem dsV_len : ∀ ts : List I5, (dsV ts).length = ts.length * 5
  | [] => rfl
  | x :: t => by rw [dsV_cons, List.length_append, dsV_len t, clV_len, List.length_cons]; omega
theorem dsV_app (a b : List I5) : dsV (a ++ b) = dsV a ++ dsV b := by unfold dsV; rw [List.map_append, List.flatten_append]
theorem dsV_one (x : I5) : dsV [x] = clV x := by rw [dsV_cons]; simp [dsV]
theorem dsV_get : ∀ (ts : List I5) (i : Nat) (x : I5), ts[i]? = some x → ∀ j, j < 5 → (dsV ts)[i * 5 + j]? = (clV x)[j]?
  | [], _, _, h, _, _ => by simp at h
  | y :: t, 0, x, h, j, hj => by
    simp at h; subst h
    rw [Nat.zero_mul, Nat.zero_add, dsV_cons, List.getElem?_append_left (by rw [clV_len]; exact hj)]
  | y :: t, i + 1, x, h, j, hj => by
    rw [dsV_cons, List.getElem?_append_right (by rw [clV_len]; omega), clV_len, show (i + 1) * 5 + j - 5 = i * 5 + j by omega]
    exact dsV_get t i x (by simpa using h) j hj
/-- a row of the call's own. -/
abbrev OwnV (B : Nat) (w : World) (D : Value) (L : List I5) : Prop := w.ownsRow B 42 5 D L.length (dsV L)
theorem own5V {w : World} {B : Nat} {D : Value} {L : List I5} (h : OwnV B w D L) : ∃ A cap, D = .slice A L.length cap ∧ L.length ≤ cap ∧ RowsV w.heap.size w A L := by
  have h' := h
  rcases h.2 with ⟨rfl, hn⟩ | ⟨g, cap, cur, rfl, hg, hh, hnc, _⟩
  · have : L = [] := List.eq_nil_of_length_eq_zero hn
    subst this
    exact ⟨none, 0, rfl, Nat.le_refl _, fun i x hx => by simp at hx⟩
  · refine ⟨some ⟨g, 0, none⟩, cap, rfl, hnc, fun i x hx => ⟨g, 0, rfl, (h'.lt g rfl).2, fun j u hj => ?_⟩⟩
    have hj5 : j < 5 := by have := (List.getElem?_eq_some_iff.1 hj).1; rwa [clV_len] at this
    have := h'.cells (g := g) rfl (i * 5 + j) u (by rw [dsV_get L i x hx j hj5]; exact hj)
    have hadd : (⟨g, 0, none⟩ : Addr).add (i * 5 + j) = ⟨g, 0 + i * 5 + j, none⟩ := by unfold Addr.add; split <;> simp_all
    rw [← hadd]; exact this
set_option maxHeartbeats 8000000 in
theorem events_any (A : Option Addr) (L : List I5) (n cap : Nat) (hn : L.length = n) (hl : n ≤ 1000) (hf : ∀ x ∈ L, Fit5 x) (w : World) (h : RowsV w.heap.size w A L) :
    Calls Tryd.prog 21 #[.slice A n cap] w fun e w' => ∃ v, e = .returned v ∧ OwB w.heap.size w' v (fivesB L) ∧ Below w.heap.size w w' := by
  have HR := Lib.hid h; have HN := Lib.hid hn; have HF := Lib.hid hf
  clear h hn hf
  go_enter Tryd.func21, Tryd.ntmps21
  go_wp2_with fail
  go_loopw [3, 8] (fun a iv wr => ∃ k : Nat, iv = .int .i64 k ∧ k ≤ n ∧ OwB w.heap.size wr a (fivesB (L.take k)) ∧ Below w.heap.size w wr) (fun _ iv _ => n - (intOf iv).toNat)
  case atStart => exact ⟨0, rfl, Nat.zero_le _, World.ownsRow_nil _ _ _ _, Below.refl _ _⟩
  case round =>
    obtain ⟨k, rfl, hk, ho, hb⟩ := hrel
    have HO := Lib.hid ho; have HB := Lib.hid hb
    clear ho hb
    by_cases hlt : k < n
    · obtain ⟨x, hx⟩ : ∃ x, L[k]? = some x := ⟨_, List.getElem?_eq_getElem (by rw [HN.out]; omega)⟩
      obtain ⟨b, o, rfl, -, hr⟩ := (HR.out.below HB.out) k x hx
      have HRG := Lib.hid hr
      have HID : Hid ((Tryd.prog.info? 42).map (·.size) = some (clV x).length) := by show _ = _; rw [info5V, clV_len]
      have k0 : (0 : Int) ≤ (k : Int) := by omega
      have k1 : (k : Int) < (n : Int) := by omega
      have HFX := Lib.hid (HF.out x (List.mem_of_getElem? hx))
      have HE : Hid (fivesB (L.take (k + 1)) = fivesB (L.take k) ++ intsB (nums5 x)) := by
        show _ = _
        have hkl : k < L.length := (List.getElem?_eq_some_iff.1 hx).1
        rw [List.take_succ_eq_append_getElem hkl, fivesB_app, (List.getElem?_eq_some_iff.1 hx).2]
        simp [fivesB, fiveB]
      have HLN := Lib.hid (fivesB_len (L.take k) fun y hy => HF.out y (List.mem_of_mem_take hy))
      have HTL := Lib.hid (show (L.take k).length ≤ 1000 by rw [List.length_take]; omega)
      clear hr hx
      go_upto_region 5 with (first
        | (with_reducible (show wpList _ _ _ _ _ _); refine wpList_load_mid rfl 42 (.tmp 10) rfl b (o + k * 5) rfl (clV x) _ HRG.out Tryd.underlying42 rfl HID.out ?_)
        | (with_reducible (show wpList _ _ _ _ _ _); refine st5V rfl (.tmp 5) (.tmp 11) rfl wr.heap.size rfl rfl _ (Blk.new wr _ _) rfl ?_))
      have hbx : Blk ((wr.alloc (.cells #[.int .i64 0, .int .i64 0, .int .i64 0, .int .i64 0, .int .i64 0] 42)).setRow wr.heap.size (clV x).toArray) wr.heap.size 42 (clV x).toArray := setRow_heap _ _ _ _ _ _ (Blk.new wr _ _)
      have hbw : Below wr.heap.size wr ((wr.alloc (.cells #[.int .i64 0, .int .i64 0, .int .i64 0, .int .i64 0, .int .i64 0] 42)).setRow wr.heap.size (clV x).toArray) := (((But.of_below (X := fun k => wr.heap.size ≤ k) (Below.refl _ _)).alloc _).row _ _ (.inl (Nat.le_refl _))).below (Nat.le_refl _) fun k _ z => z
      generalize (wr.alloc (.cells #[.int .i64 0, .int .i64 0, .int .i64 0, .int .i64 0, .int .i64 0] 42)).setRow wr.heap.size (clV x).toArray = V at *
      have HOV := Lib.hid (own_on HO.out hbw)
      have HBV := Lib.hid (HB.out.trans (hbw.mono HB.out.size))
      clear hbw HRG HID
      generalize wr.heap.size = g at *
      have e0 : V.cell? ⟨g, 0, none⟩ = some (.int .i64 x.a) := hbx.cell 0
      have e1 : V.cell? ⟨g, 1, none⟩ = some (.int .i64 x.b) := hbx.cell 1
      have e2 : V.cell? ⟨g, 2, none⟩ = some (.int .i64 x.c) := hbx.cell 2
      have e3 : V.cell? ⟨g, 3, none⟩ = some (.int .i64 x.d) := hbx.cell 3
      have e4 : V.cell? ⟨g, 4, none⟩ = some (.int .i64 x.e) := hbx.cell 4
      clear hbx
      have HNB : Hid (NumsB (V.alloc (.cells #[.int .i64 x.a, .int .i64 x.b, .int .i64 x.c, .int .i64 x.d, .int .i64 x.e] 3)) V.heap.size (nums5 x)) :=
        ⟨_, Blk.new V _ _, fun i hi => by match i, hi with | 0, _ => rfl | 1, _ => rfl | 2, _ => rfl | 3, _ => rfl | 4, _ => rfl⟩
      have had := (add_any w.heap.size V.heap.size 5 u3 (fivesB (L.take k)) (nums5 x) _ (.inl (HOV.out.alloc _)) HNB.out (fit_nums HFX.out) (by
        show _ + 10 * 5 ≤ 1000000
        have := HLN.out; have := HTL.out; omega) (by have := HBV.out.size; simp; omega))
      rw [show (nums5 x).length = 5 from rfl] at had
      have HAD := Lib.hid had
      clear had
      go_wp2_with (go_at_call 25; (with_reducible refine HAD.out.mono ?_); rintro e w4 ⟨v4, rfl, -, hb4, ho4⟩; have HO4 := Lib.hid (ho4 (by simp [nums5])); have HB4 := Lib.hid hb4; clear ho4 hb4)
      go_roundw
      case rel =>
        exact ⟨k + 1, by go_num, by omega, by rw [HE.out]; exact HO4.out, HBV.out.trans (((Below.refl _ _).alloc HBV.out.size _).trans HB4.out)⟩
      case measure => simp [intOf]; omega
    · obtain rfl : k = n := by omega
      have tk : ¬ (k : Int) < (k : Int) := by omega
      go_wp2_with fail
      go_ret
      have e : L.take k = L := by rw [← HN.out]; exact List.take_length
      have h2 := HO.out
      rw [e] at h2
      exact ⟨_, rfl, h2, HB.out⟩

/-- an entry's five cells. -/
def clN (x : I5) : List Value := [.int .i64 x.a, .int .i64 x.b, .int .i64 x.c, .int .i64 x.d, .int .u64 (toU x.e : Int)]
theorem clN_len (x : I5) : (clN x).length = 5 := rfl
theorem clN_one (x : I5) : (clN x).toArray.all (·.oneCell') = true := by
  rw [Array.all_eq_true']
  intro v hv
  simp only [clN, List.mem_toArray, List.mem_cons, List.not_mem_nil, or_false] at hv
  rcases hv with rfl | rfl | rfl | rfl | rfl <;> rfl
theorem info5N : (Tryd.prog.info? 46).map (·.size) = some 5 := by kernel_rfl
theorem infoPN : (Tryd.prog.info? 46).map (fun i => (i.zero, i.size, i.bytes)) = some (some (.agg #[.int .i64 0, .int .i64 0, .int .i64 0, .int .i64 0, .int .u64 0]), 5, 40) := by kernel_rfl
/-- rows that may be read, below a block. -/
def RowsN (B : Nat) (w : World) (A : Option Addr) (L : List I5) : Prop :=
  ∀ (i : Nat) x, L[i]? = some x → ∃ b off, A = some ⟨b, off, none⟩ ∧ b < B ∧ w.rangeAt b (off + i * 5) (clN x)
theorem RowsN.below {B : Nat} {w w' : World} {A : Option Addr} {L : List I5} (h : RowsN B w A L) (hb : Below B w w') : RowsN B w' A L := fun i d hd => by
  obtain ⟨b, off, e, hlt, hr⟩ := h i d hd
  exact ⟨b, off, e, hlt, fun j u hu => (hb.cell (p := ⟨b, _, none⟩) hlt).trans (hr j u hu)⟩
theorem RowsN.mono {B B' : Nat} {w : World} {A : Option Addr} {L : List I5} (h : RowsN B w A L) (hB : B ≤ B') : RowsN B' w A L := fun i d hd => by
  obtain ⟨b, off, e, hlt, hr⟩ := h i d hd
  exact ⟨b, off, e, by omega, hr⟩
theorem RowsN.take {B : Nat} {w : World} {A : Option Addr} {L : List I5} (h : RowsN B w A L) (n : Nat) : RowsN B w A (L.take n) := fun i d hd => h i d (by
  rw [List.getElem?_take] at hd; split at hd; exact hd; cases hd)
/-- an entry is stored whole. -/
theorem st5N {d : I5} {w : World} {ops : Array Oper} {rest : List Oper} {o : Oper} {a : Act} {Q : Exit → Act → World → Prop} (hgd : o.guard = none) (x y : Operand) (ho : o.op = .store 46 x y)
    (g : Nat) (hx : a.eval x = .pointer (some ⟨g, 0, none⟩)) (hy : a.eval y = .agg (clN d).toArray) (old : Array Value) (hg : Blk w g 46 old) (hold : old.size = 5)
    (h : wpList Tryd.prog ops Q rest (a.put o.dst undef) (w.setRow g (clN d).toArray)) : wpList Tryd.prog ops Q (o :: rest) a w :=
  wpList_store_row hgd 46 x y ho g _ hx hy 46 old hg (by rw [info5N, List.size_toArray, clN_len]) (by rw [hold, List.size_toArray, clN_len]) (clN_one d) h
def dsN (ts : List I5) : List Value := (ts.map clN).flatten
theorem dsN_cons (x : I5) (r : List I5) : dsN (x :: r) = clN x ++ dsN r := by unfold dsN; rw [List.map_cons, List.flatten_cons]
theorem dsN_len : ∀ ts : List I5, (dsN ts).length = ts.length * 5
  | [] => rfl
  | x :: t => by rw [dsN_cons, List.length_append, dsN_len t, clN_len, List.length_cons]; omega
theorem dsN_app (a b : List I5) : dsN (a ++ b) = dsN a ++ dsN b := by unfold dsN; rw [List.map_append, List.flatten_append]
theorem dsN_one (x : I5) : dsN [x] = clN x := by rw [dsN_cons]; simp [dsN]
theorem dsN_get : ∀ (ts : List I5) (i : Nat) (x : I5), ts[i]? = some x → ∀ j, j < 5 → (dsN ts)[i * 5 + j]? = (clN x)[j]?
  | [], _, _, h, _, _ => by simp at h
  | y :: t, 0, x, h, j, hj => by
    simp at h; subst h
    rw [Nat.zero_mul, Nat.zero_add, dsN_cons, List.getElem?_append_left (by rw [clN_len]; exact hj)]
  | y :: t, i + 1, x, h, j, hj => by
    rw [dsN_cons, List.getElem?_append_right (by rw [clN_len]; omega), clN_len, show (i + 1) * 5 + j - 5 = i * 5 + j by omega]
    exact dsN_get t i x (by simpa using h) j hj
/-- a row of the call's own. -/
abbrev OwnN (B : Nat) (w : World) (D : Value) (L : List I5) : Prop := w.ownsRow B 46 5 D L.length (dsN L)
theorem own5N {w : World} {B : Nat} {D : Value} {L : List I5} (h : OwnN B w D L) : ∃ A cap, D = .slice A L.length cap ∧ L.length ≤ cap ∧ RowsN w.heap.size w A L := by
  have h' := h
  rcases h.2 with ⟨rfl, hn⟩ | ⟨g, cap, cur, rfl, hg, hh, hnc, _⟩
  · have : L = [] := List.eq_nil_of_length_eq_zero hn
    subst this
    exact ⟨none, 0, rfl, Nat.le_refl _, fun i x hx => by simp at hx⟩
  · refine ⟨some ⟨g, 0, none⟩, cap, rfl, hnc, fun i x hx => ⟨g, 0, rfl, (h'.lt g rfl).2, fun j u hj => ?_⟩⟩
    have hj5 : j < 5 := by have := (List.getElem?_eq_some_iff.1 hj).1; rwa [clN_len] at this
    have := h'.cells (g := g) rfl (i * 5 + j) u (by rw [dsN_get L i x hx j hj5]; exact hj)
    have hadd : (⟨g, 0, none⟩ : Addr).add (i * 5 + j) = ⟨g, 0 + i * 5 + j, none⟩ := by unfold Addr.add; split <;> simp_all
    rw [← hadd]; exact this
set_option maxHeartbeats 8000000 in
theorem entries_any (A : Option Addr) (L : List I5) (n cap : Nat) (hn : L.length = n) (hl : n ≤ 1000) (hf : ∀ x ∈ L, Fit5 x) (w : World) (h : RowsN w.heap.size w A L) :
    Calls Tryd.prog 22 #[.slice A n cap] w fun e w' => ∃ v, e = .returned v ∧ OwB w.heap.size w' v (fivesB L) ∧ Below w.heap.size w w' := by
  have HR := Lib.hid h; have HN := Lib.hid hn; have HF := Lib.hid hf
  clear h hn hf
  go_enter Tryd.func22, Tryd.ntmps22
  go_wp2_with fail
  go_loopw [3, 8] (fun a iv wr => ∃ k : Nat, iv = .int .i64 k ∧ k ≤ n ∧ OwB w.heap.size wr a (fivesB (L.take k)) ∧ Below w.heap.size w wr) (fun _ iv _ => n - (intOf iv).toNat)
  case atStart => exact ⟨0, rfl, Nat.zero_le _, World.ownsRow_nil _ _ _ _, Below.refl _ _⟩
  case round =>
    obtain ⟨k, rfl, hk, ho, hb⟩ := hrel
    have HO := Lib.hid ho; have HB := Lib.hid hb
    clear ho hb
    by_cases hlt : k < n
    · obtain ⟨x, hx⟩ : ∃ x, L[k]? = some x := ⟨_, List.getElem?_eq_getElem (by rw [HN.out]; omega)⟩
      obtain ⟨b, o, rfl, -, hr⟩ := (HR.out.below HB.out) k x hx
      have HRG := Lib.hid hr
      have HID : Hid ((Tryd.prog.info? 46).map (·.size) = some (clN x).length) := by show _ = _; rw [info5N, clN_len]
      have k0 : (0 : Int) ≤ (k : Int) := by omega
      have k1 : (k : Int) < (n : Int) := by omega
      have HFX := Lib.hid (HF.out x (List.mem_of_getElem? hx))
      have HE : Hid (fivesB (L.take (k + 1)) = fivesB (L.take k) ++ intsB (nums5 x)) := by
        show _ = _
        have hkl : k < L.length := (List.getElem?_eq_some_iff.1 hx).1
        rw [List.take_succ_eq_append_getElem hkl, fivesB_app, (List.getElem?_eq_some_iff.1 hx).2]
        simp [fivesB, fiveB]
      have HLN := Lib.hid (fivesB_len (L.take k) fun y hy => HF.out y (List.mem_of_mem_take hy))
      have HTL := Lib.hid (show (L.take k).length ≤ 1000 by rw [List.length_take]; omega)
      clear hr hx
      go_upto_region 5 with (first
        | (with_reducible (show wpList _ _ _ _ _ _); refine wpList_load_mid rfl 46 (.tmp 10) rfl b (o + k * 5) rfl (clN x) _ HRG.out Tryd.underlying46 rfl HID.out ?_)
        | (with_reducible (show wpList _ _ _ _ _ _); refine st5N rfl (.tmp 5) (.tmp 11) rfl wr.heap.size rfl rfl _ (Blk.new wr _ _) rfl ?_))
      have hbx : Blk ((wr.alloc (.cells #[.int .i64 0, .int .i64 0, .int .i64 0, .int .i64 0, .int .u64 0] 46)).setRow wr.heap.size (clN x).toArray) wr.heap.size 46 (clN x).toArray := setRow_heap _ _ _ _ _ _ (Blk.new wr _ _)
      have hbw : Below wr.heap.size wr ((wr.alloc (.cells #[.int .i64 0, .int .i64 0, .int .i64 0, .int .i64 0, .int .u64 0] 46)).setRow wr.heap.size (clN x).toArray) := (((But.of_below (X := fun k => wr.heap.size ≤ k) (Below.refl _ _)).alloc _).row _ _ (.inl (Nat.le_refl _))).below (Nat.le_refl _) fun k _ z => z
      generalize (wr.alloc (.cells #[.int .i64 0, .int .i64 0, .int .i64 0, .int .i64 0, .int .u64 0] 46)).setRow wr.heap.size (clN x).toArray = V at *
      have HOV := Lib.hid (own_on HO.out hbw)
      have HBV := Lib.hid (HB.out.trans (hbw.mono HB.out.size))
      clear hbw HRG HID
      generalize wr.heap.size = g at *
      have e0 : V.cell? ⟨g, 0, none⟩ = some (.int .i64 x.a) := hbx.cell 0
      have e1 : V.cell? ⟨g, 1, none⟩ = some (.int .i64 x.b) := hbx.cell 1
      have e2 : V.cell? ⟨g, 2, none⟩ = some (.int .i64 x.c) := hbx.cell 2
      have e3 : V.cell? ⟨g, 3, none⟩ = some (.int .i64 x.d) := hbx.cell 3
      have e4 : V.cell? ⟨g, 4, none⟩ = some (.int .u64 (toU x.e : Int)) := hbx.cell 4
      have hwe : wrap64 (toU x.e : Int) = x.e := toU_back HFX.out.2.2.2.2
      clear hbx
      have HNB : Hid (NumsB (V.alloc (.cells #[.int .i64 x.a, .int .i64 x.b, .int .i64 x.c, .int .i64 x.d, .int .i64 (wrap64 (toU x.e : Int))] 3)) V.heap.size (nums5 x)) :=
        ⟨_, Blk.new V _ _, fun i hi => by match i, hi with | 0, _ => rfl | 1, _ => rfl | 2, _ => rfl | 3, _ => rfl | 4, _ => exact congrArg (fun z => some (Value.int .i64 z)) hwe⟩
      have had := (add_any w.heap.size V.heap.size 5 u3 (fivesB (L.take k)) (nums5 x) _ (.inl (HOV.out.alloc _)) HNB.out (fit_nums HFX.out) (by
        show _ + 10 * 5 ≤ 1000000
        have := HLN.out; have := HTL.out; omega) (by have := HBV.out.size; simp; omega))
      rw [show (nums5 x).length = 5 from rfl] at had
      have HAD := Lib.hid had
      clear had hwe
      go_wp2_with (go_at_call 25; (with_reducible refine HAD.out.mono ?_); rintro e w4 ⟨v4, rfl, -, hb4, ho4⟩; have HO4 := Lib.hid (ho4 (by simp [nums5])); have HB4 := Lib.hid hb4; clear ho4 hb4)
      go_roundw
      case rel =>
        exact ⟨k + 1, by go_num, by omega, by rw [HE.out]; exact HO4.out, HBV.out.trans (((Below.refl _ _).alloc HBV.out.size _).trans HB4.out)⟩
      case measure => simp [intOf]; omega
    · obtain rfl : k = n := by omega
      have tk : ¬ (k : Int) < (k : Int) := by omega
      go_wp2_with fail
      go_ret
      have e : L.take k = L := by rw [← HN.out]; exact List.take_length
      have h2 := HO.out
      rw [e] at h2
      exact ⟨_, rfl, h2, HB.out⟩
end Go.Proofs.YtchhenpijbecaaaDoor
