/- prog's checkIns and Check; a program's instructions as they lie in memory. -/
import Derived.Test.YtdelddkpbdnckaaDoorCk
import Derived.Deep.DeepCutAuto
namespace Go.Proofs.YtdelddkpbdnckaaDoor
open Go.RowKit

/-- A number of Go's int. -/
def In64 (n : Int) : Prop := -9223372036854775808 ≤ n ∧ n ≤ 9223372036854775807
structure Fits (x : I4) : Prop where
  op : In64 x.op
  a : In64 x.a
  b : In64 x.b
  n : -2147483648 ≤ x.n ∧ x.n ≤ 2147483647
/-- A slice's instructions. -/
def InsIn (w : World) (A : Option Addr) (l : List I4) : Prop :=
  ∀ i x, l[i]? = some x → Fits x ∧ ∃ b off, A = some ⟨b, off, none⟩ ∧ b < w.heap.size ∧ w.cell? ⟨b, off + i * 4, none⟩ = some (.int .i64 x.op) ∧ w.cell? ⟨b, off + i * 4 + 1, none⟩ = some (.int .i64 x.a) ∧ w.cell? ⟨b, off + i * 4 + 2, none⟩ = some (.int .i64 x.b) ∧ w.cell? ⟨b, off + i * 4 + 3, none⟩ = some (.int .i32 x.n)
theorem InsIn.kept {w w' : World} {B : Nat} {A : Option Addr} {l : List I4} (h : InsIn w A l) (hb : Below B w w') (hA : ∀ a, A = some a → a.block < B) : InsIn w' A l := fun i x hx => by
  obtain ⟨f, b, off, e, hlt, h0, h1, h2, h3⟩ := h i x hx
  have hB : b < B := hA _ e
  exact ⟨f, b, off, e, Nat.lt_of_lt_of_le hlt hb.size, (hb.cell (p := ⟨b, _, none⟩) hB).trans h0, (hb.cell (p := ⟨b, _, none⟩) hB).trans h1, (hb.cell (p := ⟨b, _, none⟩) hB).trans h2, (hb.cell (p := ⟨b, _, none⟩) hB).trans h3⟩
theorem InsIn.below {w w' : World} {A : Option Addr} {l : List I4} (h : InsIn w A l) (hb : Below w.heap.size w w') : InsIn w' A l := fun i x hx => by
  obtain ⟨f, b, off, e, hlt, h0, h1, h2, h3⟩ := h i x hx
  exact ⟨f, b, off, e, Nat.lt_of_lt_of_le hlt hb.size, (hb.cell (p := ⟨b, _, none⟩) hlt).trans h0, (hb.cell (p := ⟨b, _, none⟩) hlt).trans h1, (hb.cell (p := ⟨b, _, none⟩) hlt).trans h2, (hb.cell (p := ⟨b, _, none⟩) hlt).trans h3⟩
theorem nameS_none {op : Int} (h : op < 1 ∨ 14 < op) : nameS op = { data := #[] } := by unfold nameS; rw [nameL_none h]
theorem nameS_some {op : Int} (h : 1 ≤ op ∧ op ≤ 14) : (nameS op).toList.isEmpty = false := by
  have := nameL_some h
  rw [ByteArray.toList_eq]
  unfold nameS
  cases hl : nameL op with
  | nil => exact absurd hl this
  | cons _ _ => rfl
abbrev insV (x : I4) : Value := .agg #[.int .i64 x.op, .int .i64 x.a, .int .i64 x.b, .int .i32 x.n]
def GotB (B : Nat) (v : Value) (w : World) (e : Ending) (w' : World) : Prop := e = .returned v ∧ Below B w w'
set_option maxHeartbeats 2000000 in
theorem checkIns_any (op a b n : Int) (places : Nat) (w : World) (hT : Tabs w) (hp : places ≤ 1000) (hn : -2147483648 ≤ n ∧ n ≤ 2147483647) :
    Calls Tryd.prog 65 #[.agg #[.int .i64 op, .int .i64 a, .int .i64 b, .int .i32 n], .int .i64 places] w (GotB w.heap.size (.int .i64 (insE ⟨op, a, b, n⟩ places)) w) := by
  have hb := Lib.hid ((Below.refl w.heap.size w).alloc (Nat.le_refl _) (.cells #[.int .i64 op, .int .i64 a, .int .i64 b, .int .i32 n] 59))
  have hT1 := hT.alloc (.cells #[.int .i64 op, .int .i64 a, .int .i64 b, .int .i32 n] 59)
  have HN := Lib.hid (name_any op _ hT1)
  clear hT hT1
  by_cases h0 : op < 1 ∨ 14 < op
  · have hE : insE ⟨op, a, b, n⟩ places = 30 := if_pos h0
    rw [hE, nameS_none h0] at *
    clear hE h0
    go_enter Tryd.func65, Tryd.ntmps65
    go_wp2_with (go_at_call 66; (with_reducible refine HN.out.mono ?_); rintro e w' ⟨rfl, rfl⟩)
    go_ret
    exact ⟨rfl, hb.out⟩
  · have hok : 1 ≤ op ∧ op ≤ 14 := by omega
    have hs := nameS_some hok
    by_cases ha : regOk a (hasA op) = true
    · by_cases hbb : regOk b (hasB op) = true
      · have hE : insE ⟨op, a, b, n⟩ places = numE op n places := by
          unfold insE; rw [if_neg h0, if_neg (by simp [ha, hbb])]
        rw [hE]
        have HC : Hid (∀ W, Calls Tryd.prog 69 #[.int .i64 op, .int .i64 n, .int .i64 places] W fun e w' => e = .returned (.int .i64 (numE op n places)) ∧ W = w') := fun W => checkNumber_any op n places W (by omega) hok hn
        obtain ⟨n0, n1⟩ := hn
        clear hE h0 hok
        go_enter Tryd.func65, Tryd.ntmps65
        go_wp2_with (first
          | (go_at_call 66; (with_reducible refine HN.out.mono ?_); rintro e w' ⟨rfl, rfl⟩)
          | (go_at_call 67; (with_reducible refine (has_any _ _).mono ?_); rintro e w' ⟨rfl, rfl⟩)
          | (go_at_call 68; (with_reducible refine (mayReg_any _ _ _).mono ?_); rintro e w' ⟨rfl, rfl⟩)
          | (go_at_call 69; (with_reducible refine (HC.out _).mono ?_); rintro e w' ⟨rfl, rfl⟩))
        go_ret
        exact ⟨rfl, hb.out⟩
      · have hbb : regOk b (hasB op) = false := by simpa using hbb
        have hE : insE ⟨op, a, b, n⟩ places = 31 := by
          unfold insE; rw [if_neg h0, if_pos (.inr hbb)]
        rw [hE]
        clear hE h0 hok hn
        go_enter Tryd.func65, Tryd.ntmps65
        go_wp2_with (first
          | (go_at_call 66; (with_reducible refine HN.out.mono ?_); rintro e w' ⟨rfl, rfl⟩)
          | (go_at_call 67; (with_reducible refine (has_any _ _).mono ?_); rintro e w' ⟨rfl, rfl⟩)
          | (go_at_call 68; (with_reducible refine (mayReg_any _ _ _).mono ?_); rintro e w' ⟨rfl, rfl⟩))
        go_ret
        exact ⟨rfl, hb.out⟩
    · have ha : regOk a (hasA op) = false := by simpa using ha
      have hE : insE ⟨op, a, b, n⟩ places = 31 := by
        unfold insE; rw [if_neg h0, if_pos (.inl ha)]
      rw [hE]
      clear hE h0 hok hn
      go_enter Tryd.func65, Tryd.ntmps65
      go_wp2_with (first
        | (go_at_call 66; (with_reducible refine HN.out.mono ?_); rintro e w' ⟨rfl, rfl⟩)
        | (go_at_call 67; (with_reducible refine (has_any _ _).mono ?_); rintro e w' ⟨rfl, rfl⟩)
        | (go_at_call 68; (with_reducible refine (mayReg_any _ _ _).mono ?_); rintro e w' ⟨rfl, rfl⟩))
      go_ret
      exact ⟨rfl, hb.out⟩
end Go.Proofs.YtdelddkpbdnckaaDoor
