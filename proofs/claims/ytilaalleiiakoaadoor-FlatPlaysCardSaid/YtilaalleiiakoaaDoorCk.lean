/- prog's Name, has, mayReg, checkNumber, checkIns. -/
import Derived.Test.YtilaalleiiakoaaDoorBu
import Derived.OwnWalk
import Derived.Deep.DeepCutAuto
namespace Go.Proofs.YtilaalleiiakoaaDoor
open Go.RowKit

set_option maxHeartbeats 1000000 in
theorem name_any (op : Int) (w : World) (hT : Tabs w) :
    Calls Tryd.prog 66 #[.int .i64 op] w fun e w' => e = .returned (.string (nameS op)) ∧ w = w' := by
  unfold nameS
  by_cases h0 : op < 0
  · rw [nameL_none (.inl (by omega))]
    go_enter Tryd.func66, Tryd.ntmps66
    go_wp2
    go_ret
    exact ⟨rfl, rfl⟩
  · by_cases h1 : 15 ≤ op
    · rw [nameL_none (.inr (by omega))]
      clear hT
      go_enter Tryd.func66, Tryd.ntmps66
      go_wp2
      go_ret
      exact ⟨rfl, rfl⟩
    · obtain ⟨k, rfl⟩ : ∃ k : Nat, op = k := ⟨op.toNat, by omega⟩
      have hc := hT.names k (by omega)
      have k0 : (0 : Int) ≤ (k : Int) := by omega
      have k1 : (k : Int) < 15 := by omega
      have e : nameL (k : Int) = nmL k := by unfold nameL; simp
      rw [e]
      have E := Lib.hid e
      clear e hT h0 h1
      go_enter Tryd.func66, Tryd.ntmps66
      go_wp2
      go_ret
      exact ⟨rfl, rfl⟩
def HasP (op : Int) (w : World) (e : Ending) (w' : World) : Prop := e = .returned (.tuple #[.bool (hasA op), .bool (hasB op), .bool (hasN op)]) ∧ w = w'
set_option maxHeartbeats 2000000 in
theorem has_any (op : Int) (w : World) :
    Calls Tryd.prog 67 #[.int .i64 op] w (HasP op w) := by
  by_cases h : op = 1 ∨ op = 2 ∨ op = 3 ∨ op = 4 ∨ op = 5 ∨ op = 6 ∨ op = 7 ∨ op = 8 ∨ op = 9 ∨ op = 10 ∨ op = 12
  · rcases h with rfl | rfl | rfl | rfl | rfl | rfl | rfl | rfl | rfl | rfl | rfl
    all_goals
      go_enter Tryd.func67, Tryd.ntmps67
      go_wp2
      go_ret3
      exact ⟨rfl, rfl⟩
  · have a : hasA op = true := by simp [hasA]; omega
    have b : hasB op = false := by simp [hasB]; omega
    have n : hasN op = false := by simp [hasN]; omega
    unfold HasP
    rw [a, b, n]
    have A := Lib.hid a; have B := Lib.hid b; have C := Lib.hid n
    clear a b n
    have q1 : (op == 1) = false := by simp; omega
    have q2 : (op == 2) = false := by simp; omega
    have q3 : (op == 3) = false := by simp; omega
    have q4 : (op == 4) = false := by simp; omega
    have q5 : (op == 5) = false := by simp; omega
    have q6 : (op == 6) = false := by simp; omega
    have q7 : (op == 7) = false := by simp; omega
    have q8 : (op == 8) = false := by simp; omega
    have q9 : (op == 9) = false := by simp; omega
    have q10 : (op == 10) = false := by simp; omega
    have q12 : (op == 12) = false := by simp; omega
    clear h
    go_enter Tryd.func67, Tryd.ntmps67
    go_wp2
    go_ret3
    exact ⟨rfl, rfl⟩
set_option maxHeartbeats 1000000 in
theorem mayReg_any (r : Int) (one : Bool) (w : World) :
    Calls Tryd.prog 68 #[.int .i64 r, .bool one] w fun e w' => e = .returned (.bool (regOk r one)) ∧ w = w' := by
  cases one with
  | false =>
    cases h : regOk r false with
    | true =>
      have t : (r == 0) = true := by simpa [regOk] using h
      have H := Lib.hid h; clear h
      go_enter Tryd.func68, Tryd.ntmps68
      go_wp2
      go_ret
      exact ⟨rfl, rfl⟩
    | false =>
      have t : (r == 0) = false := by simpa [regOk] using h
      have H := Lib.hid h; clear h
      go_enter Tryd.func68, Tryd.ntmps68
      go_wp2
      go_ret
      exact ⟨rfl, rfl⟩
  | true =>
    by_cases h0 : 0 ≤ r
    · by_cases h1 : r < 4
      · have h : regOk r true = true := by simp [regOk]; omega
        rw [h]
        have H := Lib.hid h; clear h
        go_enter Tryd.func68, Tryd.ntmps68
        go_wp2
        go_ret
        exact ⟨rfl, rfl⟩
      · have h : regOk r true = false := by simp [regOk]; omega
        have d : decide (r < 4) = false := by simp; omega
        rw [h]
        have H := Lib.hid h; clear h
        go_enter Tryd.func68, Tryd.ntmps68
        go_wp2
        go_ret
        exact ⟨rfl, rfl⟩
    · have h : regOk r true = false := by simp [regOk]; omega
      have d : decide (0 ≤ r) = false := by simp; omega
      rw [h]
      have H := Lib.hid h; clear h
      go_enter Tryd.func68, Tryd.ntmps68
      go_wp2
      go_ret
      exact ⟨rfl, rfl⟩
set_option maxHeartbeats 4000000 in
theorem checkNumber_any (op n places : Int) (w : World) (hp : 0 ≤ places ∧ places ≤ 100000) (ho : 1 ≤ op ∧ op ≤ 14) (hn : -2147483648 ≤ n ∧ n ≤ 2147483647) :
    Calls Tryd.prog 69 #[.int .i64 op, .int .i64 n, .int .i64 places] w fun e w' => e = .returned (.int .i64 (numE op n places)) ∧ w = w' := by
  obtain ⟨p0, p1⟩ := hp
  obtain ⟨n0, n1⟩ := hn
  by_cases h1 : op = 1
  · subst h1
    go_enter Tryd.func69, Tryd.ntmps69
    go_wp2
    go_ret
    exact ⟨rfl, rfl⟩
  · by_cases hlo : n < 0
    · have hl : op = 2 ∨ op = 3 ∨ op = 4 ∨ op = 5 ∨ op = 6 ∨ op = 7 ∨ op = 8 ∨ op = 9 ∨ op = 10 ∨ op = 11 ∨ op = 12 ∨ op = 13 ∨ op = 14 := by omega
      clear h1 ho
      rcases hl with rfl | rfl | rfl | rfl | rfl | rfl | rfl | rfl | rfl | rfl | rfl | rfl | rfl
      all_goals
        simp only [numE, hlo]
        go_enter Tryd.func69, Tryd.ntmps69
        go_wp2
        go_ret
        exact ⟨rfl, rfl⟩
    · have hl : (op = 4 ∨ op = 5) ∨ (op = 7 ∨ op = 12 ∨ op = 9 ∨ op = 10) ∨ (op = 2 ∨ op = 3 ∨ op = 6 ∨ op = 8 ∨ op = 11 ∨ op = 13 ∨ op = 14) := by omega
      have d0 : decide (n < 0) = false := by simp; omega
      clear h1 ho
      rcases hl with hl | hl | hl
      · by_cases hh : places - 1 < n
        · rcases hl with rfl | rfl
          all_goals
            simp only [numE, hh]
            go_enter Tryd.func69, Tryd.ntmps69
            go_wp2
            go_ret
            exact ⟨rfl, rfl⟩
        · have d1 : decide (places - 1 < n) = false := by simp; omega
          rcases hl with rfl | rfl
          all_goals
            simp only [numE, hh, hlo]
            go_enter Tryd.func69, Tryd.ntmps69
            go_wp2
            go_ret
            exact ⟨rfl, rfl⟩
      · by_cases hh : 15 < n
        · rcases hl with rfl | rfl | rfl | rfl
          all_goals
            simp only [numE, hh]
            go_enter Tryd.func69, Tryd.ntmps69
            go_wp2
            go_ret
            exact ⟨rfl, rfl⟩
        · have d1 : decide (15 < n) = false := by simp; omega
          rcases hl with rfl | rfl | rfl | rfl
          all_goals
            simp only [numE, hh, hlo]
            go_enter Tryd.func69, Tryd.ntmps69
            go_wp2
            go_ret
            exact ⟨rfl, rfl⟩
      · by_cases hh : 0 < n
        · rcases hl with rfl | rfl | rfl | rfl | rfl | rfl | rfl
          all_goals
            simp only [numE, hh]
            go_enter Tryd.func69, Tryd.ntmps69
            go_wp2
            go_ret
            exact ⟨rfl, rfl⟩
        · have d1 : decide (0 < n) = false := by simp; omega
          rcases hl with rfl | rfl | rfl | rfl | rfl | rfl | rfl
          all_goals
            simp only [numE, hh, hlo]
            go_enter Tryd.func69, Tryd.ntmps69
            go_wp2
            go_ret
            exact ⟨rfl, rfl⟩


/-- A number of Go's int. -/
def In64 (n : Int) : Prop := -9223372036854775808 ≤ n ∧ n ≤ 9223372036854775807
structure Fits (x : I4) : Prop where
  op : In64 x.op
  a : In64 x.a
  b : In64 x.b
  n : -2147483648 ≤ x.n ∧ x.n ≤ 2147483647
/-- A slice's instructions. -/
def InsIn (w : World) (A : Option Addr) (l : List I4) : Prop :=
  ∀ i x, l[i]? = some x → Fits x ∧ ∃ b off, A = some ⟨b, off, none⟩ ∧ b < w.heap.size ∧ w.cell? ⟨b, off + i * 4, none⟩ = some (.int .i64 x.op) ∧ w.cell? ⟨b, off + i * 4 + 1, none⟩ = some (.int .i64 x.a) ∧ w.cell? ⟨b, off + i * 4 + 2, none⟩ = some (.int .i64 x.b) ∧ w.cell? ⟨b, off + i * 4 + 3, none⟩ = some (.int .i32 x.n)
theorem InsIn.kept {w w' : World} {B : Nat} {A : Option Addr} {l : List I4} (h : InsIn w A l) (hb : Below B w w') (hA : ∀ a, A = some a → a.block < B) : InsIn w' A l := fun i x hx => by
  obtain ⟨f, b, off, e, hlt, h0, h1, h2, h3⟩ := h i x hx
  have hB : b < B := hA _ e
  exact ⟨f, b, off, e, Nat.lt_of_lt_of_le hlt hb.size, (hb.cell (p := ⟨b, _, none⟩) hB).trans h0, (hb.cell (p := ⟨b, _, none⟩) hB).trans h1, (hb.cell (p := ⟨b, _, none⟩) hB).trans h2, (hb.cell (p := ⟨b, _, none⟩) hB).trans h3⟩
theorem InsIn.below {w w' : World} {A : Option Addr} {l : List I4} (h : InsIn w A l) (hb : Below w.heap.size w w') : InsIn w' A l := fun i x hx => by
  obtain ⟨f, b, off, e, hlt, h0, h1, h2, h3⟩ := h i x hx
  exact ⟨f, b, off, e, Nat.lt_of_lt_of_le hlt hb.size, (hb.cell (p := ⟨b, _, none⟩) hlt).trans h0, (hb.cell (p := ⟨b, _, none⟩) hlt).trans h1, (hb.cell (p := ⟨b, _, none⟩) hlt).trans h2, (hb.cell (p := ⟨b, _, none⟩) hlt).trans h3⟩
theorem nameS_none {op : Int} (h : op < 1 ∨ 14 < op) : nameS op = { data := #[] } := by unfold nameS; rw [nameL_none h]
theorem nameS_some {op : Int} (h : 1 ≤ op ∧ op ≤ 14) : (nameS op).toList.isEmpty = false := by
  have := nameL_some h
  rw [ByteArray.toList_eq]
  unfold nameS
  cases hl : nameL op with
  | nil => exact absurd hl this
  | cons _ _ => rfl
abbrev insV (x : I4) : Value := .agg #[.int .i64 x.op, .int .i64 x.a, .int .i64 x.b, .int .i32 x.n]
def GotB (B : Nat) (v : Value) (w : World) (e : Ending) (w' : World) : Prop := e = .returned v ∧ Below B w w'
set_option maxHeartbeats 2000000 in
theorem checkIns_any (op a b n : Int) (places : Nat) (w : World) (hT : Tabs w) (hp : places ≤ 1000) (hn : -2147483648 ≤ n ∧ n ≤ 2147483647) :
    Calls Tryd.prog 65 #[.agg #[.int .i64 op, .int .i64 a, .int .i64 b, .int .i32 n], .int .i64 places] w (GotB w.heap.size (.int .i64 (insE ⟨op, a, b, n⟩ places)) w) := by
  have hb := Lib.hid ((Below.refl w.heap.size w).alloc (Nat.le_refl _) (.cells #[.int .i64 op, .int .i64 a, .int .i64 b, .int .i32 n] 59))
  have hT1 := hT.alloc (.cells #[.int .i64 op, .int .i64 a, .int .i64 b, .int .i32 n] 59)
  have HN := Lib.hid (name_any op _ hT1)
  clear hT hT1
  by_cases h0 : op < 1 ∨ 14 < op
  · have hE : insE ⟨op, a, b, n⟩ places = 30 := if_pos h0
    rw [hE, nameS_none h0] at *
    clear hE h0
    go_enter Tryd.func65, Tryd.ntmps65
    go_wp2_with (go_at_call 66; (with_reducible refine HN.out.mono ?_); rintro e w' ⟨rfl, rfl⟩)
    go_ret
    exact ⟨rfl, hb.out⟩
  · have hok : 1 ≤ op ∧ op ≤ 14 := by omega
    have hs := nameS_some hok
    by_cases ha : regOk a (hasA op) = true
    · by_cases hbb : regOk b (hasB op) = true
      · have hE : insE ⟨op, a, b, n⟩ places = numE op n places := by
          unfold insE; rw [if_neg h0, if_neg (by simp [ha, hbb])]
        rw [hE]
        have HC : Hid (∀ W, Calls Tryd.prog 69 #[.int .i64 op, .int .i64 n, .int .i64 places] W fun e w' => e = .returned (.int .i64 (numE op n places)) ∧ W = w') := fun W => checkNumber_any op n places W (by omega) hok hn
        obtain ⟨n0, n1⟩ := hn
        clear hE h0 hok
        go_enter Tryd.func65, Tryd.ntmps65
        go_wp2_with (first
          | (go_at_call 66; (with_reducible refine HN.out.mono ?_); rintro e w' ⟨rfl, rfl⟩)
          | (go_at_call 67; (with_reducible refine (has_any _ _).mono ?_); rintro e w' ⟨rfl, rfl⟩)
          | (go_at_call 68; (with_reducible refine (mayReg_any _ _ _).mono ?_); rintro e w' ⟨rfl, rfl⟩)
          | (go_at_call 69; (with_reducible refine (HC.out _).mono ?_); rintro e w' ⟨rfl, rfl⟩))
        go_ret
        exact ⟨rfl, hb.out⟩
      · have hbb : regOk b (hasB op) = false := by simpa using hbb
        have hE : insE ⟨op, a, b, n⟩ places = 31 := by
          unfold insE; rw [if_neg h0, if_pos (.inr hbb)]
        rw [hE]
        clear hE h0 hok hn
        go_enter Tryd.func65, Tryd.ntmps65
        go_wp2_with (first
          | (go_at_call 66; (with_reducible refine HN.out.mono ?_); rintro e w' ⟨rfl, rfl⟩)
          | (go_at_call 67; (with_reducible refine (has_any _ _).mono ?_); rintro e w' ⟨rfl, rfl⟩)
          | (go_at_call 68; (with_reducible refine (mayReg_any _ _ _).mono ?_); rintro e w' ⟨rfl, rfl⟩))
        go_ret
        exact ⟨rfl, hb.out⟩
    · have ha : regOk a (hasA op) = false := by simpa using ha
      have hE : insE ⟨op, a, b, n⟩ places = 31 := by
        unfold insE; rw [if_neg h0, if_pos (.inl ha)]
      rw [hE]
      clear hE h0 hok hn
      go_enter Tryd.func65, Tryd.ntmps65
      go_wp2_with (first
        | (go_at_call 66; (with_reducible refine HN.out.mono ?_); rintro e w' ⟨rfl, rfl⟩)
        | (go_at_call 67; (with_reducible refine (has_any _ _).mono ?_); rintro e w' ⟨rfl, rfl⟩)
        | (go_at_call 68; (with_reducible refine (mayReg_any _ _ _).mono ?_); rintro e w' ⟨rfl, rfl⟩))
      go_ret
      exact ⟨rfl, hb.out⟩


def CheckP (prio : Int) (l : List I4) (w : World) (e : Ending) (w' : World) : Prop :=
  e = .returned (.tuple #[.int .i64 (progE prio l).1, .int .i64 ((progE prio l).2 : Nat)]) ∧ Below w.heap.size w w'
theorem CheckP.mk {prio : Int} {l : List I4} {w w' : World} {e : Ending} {a : Int} {k : Nat} (h : progE prio l = (a, k)) (he : e = .returned (.tuple #[.int .i64 a, .int .i64 (k : Nat)])) (hb : Below w.heap.size w w') : CheckP prio l w e w' := by
  unfold CheckP; rw [h]; exact ⟨he, hb⟩
set_option maxRecDepth 100000 in
set_option maxHeartbeats 8000000 in
theorem check_any (prio : Int) (A : Option Addr) (l : List I4) (cap : Nat) (w : World) (hT : Tabs w) (hI : InsIn w A l) :
    Calls Tryd.prog 64 #[.agg #[.int .i64 prio, .slice A l.length cap]] w (CheckP prio l w) := by
  have HB := Lib.hid ((Below.refl w.heap.size w).alloc (Nat.le_refl _) (.cells #[.int .i64 prio, .slice A l.length cap] 53))
  by_cases hp : prio < 0 ∨ 3 < prio
  · have hE := Lib.hid (progE_size (l := l) hp)
    rcases hp with hp | hp
    · clear hT hI
      go_enter Tryd.func64, Tryd.ntmps64
      go_wp2
      go_ret2
      exact CheckP.mk hE.out rfl HB.out
    · have h0 : decide (prio < 0) = false := by simp; omega
      clear hT hI
      go_enter Tryd.func64, Tryd.ntmps64
      go_wp2
      go_ret2
      exact CheckP.mk hE.out rfl HB.out
  · have p0 : decide (prio < 0) = false := by simp; omega
    have p1 : decide (3 < prio) = false := by simp; omega
    have HPR := Lib.hid hp
    obtain ⟨n, hn⟩ : ∃ n, l.length = n := ⟨_, rfl⟩
    have HN := Lib.hid hn
    rw [hn]
    rw [hn] at HB
    by_cases hl : n = 0 ∨ 64 < n
    · have hE := Lib.hid (progE_len (l := l) hp (by rw [hn]; exact hl))
      rcases hl with hl | hl
      · have l0 : ((n : Int) == 0) = true := by simp; omega
        clear hT hI hn hl hp
        go_enter Tryd.func64, Tryd.ntmps64
        go_wp2
        go_ret2
        exact CheckP.mk hE.out rfl HB.out
      · have l0 : ((n : Int) == 0) = false := by simp; omega
        have l1 : (64 : Int) < (n : Int) := by omega
        clear hT hI hn hl hp
        go_enter Tryd.func64, Tryd.ntmps64
        go_wp2
        go_ret2
        exact CheckP.mk hE.out rfl HB.out
    · have l0 : ((n : Int) == 0) = false := by simp; omega
      have l1 : decide ((64 : Int) < (n : Int)) = false := by simp; omega
      have HL := Lib.hid hl
      have n64 : n ≤ 64 := by omega
      have n1 : 1 ≤ n := by omega
      have HT := Lib.hid hT; have HI := Lib.hid hI
      have hbw : w.heap.size < (w.alloc (.cells #[.int .i64 prio, .slice A n cap] 53)).heap.size := by simp
      have hblk := Blk.new w 53 #[.int .i64 prio, .slice A n cap]
      have HBL := Lib.hid hblk; have HBW := Lib.hid hbw
      clear hT hI hn hl hp hblk hbw
      go_enter Tryd.func64, Tryd.ntmps64
      go_wp2_with fail
      go_loopw [30] (fun i wr => ∃ k : Nat, k ≤ n ∧ i = .int .i64 k ∧ (codeE n (l.take k) 0).1 = 0 ∧ Below w.heap.size w wr ∧ Blk wr w.heap.size 53 #[.int .i64 prio, .slice A n cap]) (fun i _ => n - (intOf i).toNat)
      case atStart => exact ⟨0, Nat.zero_le _, rfl, rfl, HB.out, HBL.out⟩
      case round =>
        obtain ⟨k, hk, rfl, hc, hbel, hbk⟩ := hrel
        have HC := Lib.hid hc; have HBE := Lib.hid hbel; have HBK := Lib.hid hbk
        have x1 := hbk.cell 1
        have hlt := hbk.lt
        simp only [List.getElem?_toArray, List.getElem?_cons_zero, List.getElem?_cons_succ] at x1
        clear hc hbel hbk HB HBL HBW
        by_cases hkn : k < n
        · obtain ⟨x, hx⟩ : ∃ x, l[k]? = some x := ⟨_, List.getElem?_eq_getElem (by rw [HN.out]; exact hkn)⟩
          obtain ⟨ft, bb, off, rfl, hbb, c0, c1, c2, c3⟩ := (HI.out.below HBE.out) k x hx
          have hT2 := (HT.out.on HBE.out).alloc (.cells #[.int .i64 x.op, .int .i64 x.a, .int .i64 x.b, .int .i32 x.n] 59)
          have CI := Lib.hid (checkIns_any x.op x.a x.b x.n n _ hT2 (by omega) ft.n)
          have hbx := Blk.new wr 59 #[.int .i64 x.op, .int .i64 x.a, .int .i64 x.b, .int .i32 x.n]
          have y0 := hbx.cell 0; have y1 := hbx.cell 1; have y2 := hbx.cell 2; have y3 := hbx.cell 3
          simp only [List.getElem?_toArray, List.getElem?_cons_zero, List.getElem?_cons_succ] at y0 y1 y2 y3
          have k0 : (0 : Int) ≤ (k : Int) := by omega
          have k1 : (k : Int) < (n : Int) := by omega
          have hB2 := Lib.hid (HBE.out.alloc (by omega) (.cells #[.int .i64 x.op, .int .i64 x.a, .int .i64 x.b, .int .i32 x.n] 59))
          have HK2 : Hid (Blk (wr.alloc (.cells #[.int .i64 x.op, .int .i64 x.a, .int .i64 x.b, .int .i32 x.n] 59)) w.heap.size 53 #[.int .i64 prio, .slice (some ⟨bb, off, none⟩) n cap]) := (Below.heap_alloc _ _ _ hlt).trans HBK.out
          have HX := Lib.hid hx
          obtain ⟨E, hE⟩ : ∃ E, insE x n = E := ⟨_, rfl⟩
          have HE := Lib.hid hE
          have hxe : (⟨x.op, x.a, x.b, x.n⟩ : I4) = x := rfl
          rw [hxe, hE] at CI
          clear hE hx hbx hT2 ft hxe
          by_cases he : E = 0
          · have e0 : (E != 0) = false := by simp [he]
            subst he
            go_wp2_with (go_at_call 65; (with_reducible refine CI.out.mono ?_); rintro e w4 ⟨rfl, h4⟩; have H4 := Lib.hid h4; clear h4)
            go_roundw
            case rel =>
              have hz : w.heap.size ≤ (wr.alloc (.cells #[.int .i64 x.op, .int .i64 x.a, .int .i64 x.b, .int .i32 x.n] 59)).heap.size := by simp; omega
              exact ⟨k + 1, by omega, by go_num, codeE_on HC.out HX.out HE.out, hB2.out.trans (H4.out.mono hz), (H4.out.block _ (by simp; omega)).trans HK2.out⟩
            case measure => simp [intOf]; omega
          · have e0 : (E != 0) = true := by simp [he]
            have HNE := Lib.hid he
            clear he
            go_wp2_with (go_at_call 65; (with_reducible refine CI.out.mono ?_); rintro e w4 ⟨rfl, h4⟩; have H4 := Lib.hid h4; clear h4)
            go_ret2
            have hz : w.heap.size ≤ (wr.alloc (.cells #[.int .i64 x.op, .int .i64 x.a, .int .i64 x.b, .int .i32 x.n] 59)).heap.size := by simp; omega
            refine CheckP.mk (progE_code HPR.out (by rw [HN.out]; exact HL.out) ?_ HNE.out) rfl (hB2.out.trans (H4.out.mono hz))
            have := codeE_hit HC.out HX.out (by rw [HE.out]; exact HNE.out)
            rw [HE.out] at this
            rw [HN.out]; exact this
        · obtain rfl : k = n := by omega
          obtain ⟨x, hx⟩ : ∃ x, l[k - 1]? = some x := ⟨_, List.getElem?_eq_getElem (by rw [HN.out]; omega)⟩
          obtain ⟨ft, bb, off, rfl, hbb, c0, c1, c2, c3⟩ := (HI.out.below HBE.out) (k - 1) x hx
          have hlo : lastOp l = x.op := lastOp_at (by rw [HN.out]; exact hx)
          have hce : (codeE l.length l 0).1 = 0 := by
            have := HC.out
            rw [show l.take k = l by rw [← HN.out]; exact List.take_length] at this
            rw [HN.out]; exact this
          have hPE := progE_last HPR.out (by rw [HN.out]; exact HL.out) hce
          rw [hlo] at hPE
          obtain ⟨m, hm⟩ : ∃ m, k - 1 = m := ⟨_, rfl⟩
          have hkm : (k : Int) - 1 = (m : Int) := by omega
          have m0 : (0 : Int) ≤ (m : Int) := by omega
          have m1 : (m : Int) < (k : Int) := by omega
          have hPE2 : progE prio l = if x.op = 4 ∨ x.op = 14 then (0, 0) else (32, m) := by rw [hPE, HN.out, hm]
          rw [hm] at c0 c1 c2 c3
          have HPE := Lib.hid hPE2
          obtain ⟨op, xa, xb, xn⟩ := x
          dsimp only at c0 c1 c2 c3 HPE
          clear hPE hPE2 hce hlo hx hm ft HC c1 c2 c3
          by_cases h4 : op = 4
          · subst h4
            rw [if_pos (.inl rfl)] at HPE
            go_wp2_with fail
            go_ret2
            exact CheckP.mk HPE.out rfl HBE.out
          · by_cases h14 : op = 14
            · subst h14
              rw [if_pos (.inr rfl)] at HPE
              go_wp2_with fail
              go_ret2
              exact CheckP.mk HPE.out rfl HBE.out
            · rw [if_neg (by omega)] at HPE
              have q4 : (op != 4) = true := by simp [h4]
              have q14 : (op != 14) = true := by simp [h14]
              clear h4 h14
              go_wp2_with fail
              go_ret2
              exact CheckP.mk HPE.out rfl HBE.out
end Go.Proofs.YtilaalleiiakoaaDoor
