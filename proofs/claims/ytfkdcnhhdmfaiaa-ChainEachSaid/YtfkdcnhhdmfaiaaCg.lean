/- ChainEach: plain rows, and what lies in memory while it runs. -/
import Derived.Test.YtfkdcnhhdmfaiaaCa
import Derived.Test.YtfkdcnhhdmfaiaaRc
namespace Go.Proofs.Ytfkdcnhhdmfaiaa
open Go.RowKit Go.Shelf

/-- The first i of K - 1, K - 2, .. -/
def dn (K i : Nat) : List Nat := (List.range i).map fun j => K - 1 - j
theorem dn_length (K i : Nat) : (dn K i).length = i := by simp [dn]
theorem dn_succ (K i : Nat) : dn K (i + 1) = dn K i ++ [K - 1 - i] := by simp [dn, List.range_succ]
theorem dn_get {K i j : Nat} (h : j < i) : (dn K i)[j]? = some (K - 1 - j) := by simp [dn, h]
theorem dn_new {K i : Nat} (h : i < K) : K - 1 - i ∉ dn K i := by
  intro q
  simp only [dn, List.mem_map, List.mem_range] at q
  obtain ⟨j, hj, e⟩ := q
  omega
theorem dn_drop {K i q : Nat} (h : q < i) : (dn K i).drop q = (K - 1 - q) :: (dn K i).drop (q + 1) := by
  rw [List.drop_eq_getElem_cons (by rw [dn_length]; exact h)]
  simp [dn]
theorem dn_take {K i q : Nat} (h : q < i) : (dn K i).take (q + 1) = (dn K i).take q ++ [K - 1 - q] := by
  rw [List.take_add_one, dn_get h]; rfl
theorem dn_out {K q : Nat} (h : q < K) : K - 1 - q ∉ (dn K K).take q := by
  intro m
  obtain ⟨j, hj, e⟩ := List.mem_iff_getElem.1 m
  rw [List.length_take, dn_length] at hj
  simp [dn] at e
  omega
def two (a c : List Nat) : Nat → List Nat := fun j => if j = 0 then a else if j = 1 then c else []
theorem two_none : (fun _ => []) = two [] [] := by funext j; unfold two; split <;> (try split) <;> rfl
theorem two_fst (a c x : List Nat) : updL (two a c) 0 x = two x c := by funext j; unfold updL two; split <;> simp_all
theorem two_snd (a c x : List Nat) : updL (two a c) 1 x = two a x := by
  funext j; unfold updL two
  by_cases h : j = 1
  · subst h; simp
  · simp [h]
theorem two_lt {a c : List Nat} {x : Nat} (h1 : x ∉ a) (h2 : x ∉ c) : ∀ j, j < 2 → x ∉ two a c j := by
  intro j hj
  match j, hj with
  | 0, _ => exact h1
  | 1, _ => exact h2
/-- What lies in memory while ChainEach runs. -/
structure EG (w : World) (b gl gn c4 K : Nat) (a c : List Nat) (W : World) : Prop where
  s0 : Blk W w.heap.size 4 #[.bool false]
  s4 : Blk W c4 67 #[.pointer (some ⟨b, 0, none⟩)]
  ch : Ch b gl gn K 2 (two a c) W
  sep : ∀ k, Own3 b gl gn k → w.heap.size + 1 ≤ k ∧ k < c4
  old : But Nob w W
section
variable {w : World} {b gl gn c4 K : Nat} {a c a' c' : List Nat} {W W' : World}
theorem EG.hc4 (h : EG w b gl gn c4 K a c W) : w.heap.size + 1 ≤ c4 := by have := h.sep b (.inl rfl); omega
theorem EG.cells (h : EG w b gl gn c4 K a c W) : W.cell? ⟨c4, 0, none⟩ = some (.pointer (some ⟨b, 0, none⟩)) := h.s4.cell 0
theorem EG.turn (h : EG w b gl gn c4 K a c W) (hb : But (Own3 b gl gn) W W') (hr : Ch b gl gn K 2 (two a' c') W') : EG w b gl gn c4 K a' c' W' :=
  ⟨h.s0.but hb fun x => by have := h.sep _ x; omega, h.s4.but hb fun x => by have := h.sep _ x; omega, hr, h.sep, h.old.step hb fun k hk x => by have := h.sep _ x; omega⟩
theorem EG.nob (h : EG w b gl gn c4 K a c W) (hb : But Nob W W') : EG w b gl gn c4 K a c W' := h.turn hb.nob (h.ch.but hb fun _ _ q => q)
theorem push0 (x : Nat) (h : EG w b gl gn c4 K a c W) (hx : x < K) (h1 : x ∉ a) (h2 : x ∉ c) :
    Calls Try.prog 46 #[.pointer (some ⟨b, 0, none⟩), .int .i64 0, .int .i64 x] W fun e W' => e = .returned (.int .i64 0) ∧ EG w b gl gn c4 K (a ++ [x]) c W' ∧ But (Own3 b gl gn) W W' :=
  (push_ok 0 x h.ch (by omega) hx (two_lt h1 h2)).mono fun _ _ ⟨e, q1, q2⟩ => ⟨e, h.turn q2 (by rw [two_fst] at q1; exact q1), q2⟩
theorem push1 (x : Nat) (h : EG w b gl gn c4 K a c W) (hx : x < K) (h1 : x ∉ a) (h2 : x ∉ c) :
    Calls Try.prog 46 #[.pointer (some ⟨b, 0, none⟩), .int .i64 1, .int .i64 x] W fun e W' => e = .returned (.int .i64 0) ∧ EG w b gl gn c4 K a (c ++ [x]) W' ∧ But (Own3 b gl gn) W W' :=
  (push_ok 1 x h.ch (by omega) hx (two_lt h1 h2)).mono fun _ _ ⟨e, q1, q2⟩ => ⟨e, h.turn q2 (by rw [two_snd] at q1; exact q1), q2⟩
theorem remove0 (x : Nat) (h : EG w b gl gn c4 K (x :: a) c W) :
    Calls Try.prog 48 #[.pointer (some ⟨b, 0, none⟩), .int .i64 x] W fun e W' => e = .returned (.tuple #[.int .i64 0, .int .i64 0]) ∧ EG w b gl gn c4 K a c W' ∧ But (Own3 b gl gn) W W' :=
  (remove_ok 0 x [] a h.ch (by omega) rfl).mono fun _ _ ⟨e, q1, q2⟩ => ⟨e, h.turn q2 (by rw [two_fst] at q1; exact q1), q2⟩
theorem pop1 (x : Nat) (h : EG w b gl gn c4 K a (x :: c) W) :
    Calls Try.prog 49 #[.pointer (some ⟨b, 0, none⟩), .int .i64 1] W fun e W' => e = .returned (.tuple #[.int .i64 x, .bool true]) ∧ EG w b gl gn c4 K a c W' ∧ But (Own3 b gl gn) W W' :=
  (pop_ok 1 x c h.ch (by omega) rfl).mono fun _ _ ⟨e, q1, q2⟩ => ⟨e, h.turn q2 (by rw [two_snd] at q1; exact q1), q2⟩
end
theorem LkV.butC {X : Nat → Prop} {g nl : Nat} {R Ah Be : Nat → Int} {w w' : World} (h : LkV g nl R Ah Be w) (hb : ButC X w w') (hx : ¬ X g) : LkV g nl R Ah Be w' := let ⟨S, a, c, d⟩ := h.row; ⟨S, a, c.butC hb hx, d⟩
theorem Ch.butC {X : Nat → Prop} {b gl gn n m : Nat} {ls : Nat → List Nat} {w w' : World} (h : Ch b gl gn n m ls w) (hb : ButC X w w') (hX : ∀ k, Own3 b gl gn k → ¬ X k) : Ch b gl gn n m ls w' := by
  obtain ⟨cl, cn, R, Ah, Be, L, h, hI⟩ := h
  exact ⟨cl, cn, R, Ah, Be, L, ⟨h.hn, h.hm, h.hcl, h.hcn, h.ne1, h.ne2, h.ne3, h.own.butC hb (hX _ (.inl rfl)), h.lks.butC hb (hX _ (.inr (.inl rfl))), let ⟨S, a, c, d⟩ := h.lens; ⟨S, a, c.butC hb (hX _ (.inr (.inr rfl))), d⟩⟩, hI⟩
theorem EG.own_ {w : World} {b gl gn c4 K : Nat} {a c : List Nat} {W W' : World} {row : Option Nat} {B : Nat} (h : EG w b gl gn c4 K a c W) (hB : w.heap.size ≤ B) (hg : W.grownBy W' row)
    (hr : ∀ r, row = some r → B ≤ r ∧ ∃ o : Obj, W.heap[r]? = some o ∧ o.isCells = false) : EG w b gl gn c4 K a c W' := by
  have hr' : ∀ r, row = some r → ∃ o : Obj, W.heap[r]? = some o ∧ o.isCells = false := fun r e => (hr r e).2
  exact ⟨h.s0.own_ hg hr', h.s4.own_ hg hr', h.ch.butC (own_butC hg hr') fun _ _ x => x, h.sep, h.old.grown hg fun r e => .inr (Nat.le_trans hB (hr r e).1)⟩
/-- What holds between two rounds of ChainEach's loop over the row. -/
def EachI (w : World) (b gl gn c4 K : Nat) (pre : List Int) (W : World) : Prop := EG w b gl gn c4 K ((dn K K).drop pre.length) ((dn K K).take pre.length) W
theorem eachI_own (w : World) (b gl gn c4 K B : Nat) (hB : w.heap.size ≤ B) : OwnFrom B (EachI w b gl gn c4 K) := by
  rintro s W W' row h hg hr
  exact h.own_ hB hg hr
end Go.Proofs.Ytfkdcnhhdmfaiaa
