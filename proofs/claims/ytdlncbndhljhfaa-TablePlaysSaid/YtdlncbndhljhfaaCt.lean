/- Rows of links, told as plain rows: the calls. -/
import Derived.Test.YtdlncbndhljhfaaCr
namespace Go.Proofs.Ytdlncbndhljhfaa
open Go.RowKit

theorem nodup_len : ∀ {n : Nat} {l : List Nat}, l.Nodup → (∀ x ∈ l, x < n) → l.length ≤ n
  | 0, [], _, _ => Nat.le_refl _
  | 0, x :: _, _, h => absurd (h x (by simp)) (by omega)
  | n + 1, l, hn, h => by
    by_cases hm : n ∈ l
    · have := nodup_len (n := n) (l := l.erase n) (hn.erase n) (fun x hx => by
        have h1 := h x (List.mem_of_mem_erase hx)
        have h2 : x ≠ n := fun e => by subst e; exact (hn.not_mem_erase hx)
        omega)
      rw [List.length_erase_of_mem hm] at this; omega
    · have := nodup_len (n := n) (l := l) hn (fun x hx => by
        have h1 := h x hx
        have h2 : x ≠ n := fun e => hm (by rw [← e]; exact hx)
        omega)
      omega
/-- Rows of links that are these rows. -/
def Ch (b gl gn n m : Nat) (ls : Nat → List Nat) (w : World) : Prop := ∃ cl cn R Ah Be L, ChV b gl gn cl cn n m R Ah Be L w ∧ ChI n m R Ah Be L ls
section
variable {b gl gn n m : Nat} {ls : Nat → List Nat} {w w' : World}
theorem Ch.but {X : Nat → Prop} (h : Ch b gl gn n m ls w) (hb : But X w w') (hX : ∀ k, Own3 b gl gn k → ¬ X k) : Ch b gl gn n m ls w' := by
  obtain ⟨cl, cn, R, Ah, Be, L, h, hI⟩ := h
  exact ⟨cl, cn, R, Ah, Be, L, h.but hb hX, hI⟩
theorem Ch.lim (h : Ch b gl gn n m ls w) : n ≤ 4096 ∧ m ≤ 4096 := by
  obtain ⟨cl, cn, R, Ah, Be, L, h, hI⟩ := h; exact ⟨h.hn, h.hm⟩
theorem Ch.lt (h : Ch b gl gn n m ls w) {k : Nat} (hk : Own3 b gl gn k) : k < w.heap.size := by
  obtain ⟨cl, cn, R, Ah, Be, L, h, hI⟩ := h; exact h.lt hk
theorem Ch.node (h : Ch b gl gn n m ls w) {k x : Nat} (hk : k < m) (hx : x ∈ ls k) : x < n := by
  obtain ⟨cl, cn, R, Ah, Be, L, h, hI⟩ := h; exact (hI.mem k hk x hx).1
theorem Ch.len_le (h : Ch b gl gn n m ls w) {k : Nat} (hk : k < m) : (ls k).length ≤ n := by
  obtain ⟨cl, cn, R, Ah, Be, L, h, hI⟩ := h; exact nodup_len (hI.nodup k hk) fun x hx => (hI.mem k hk x hx).1
theorem Ch.one (h : Ch b gl gn n m ls w) {j k x : Nat} (hj : j < m) (hk : k < m) (h1 : x ∈ ls j) (h2 : x ∈ ls k) : j = k := by
  obtain ⟨cl, cn, R, Ah, Be, L, h, hI⟩ := h
  have e1 := (hI.mem j hj x h1).2; have e2 := (hI.mem k hk x h2).2; omega
theorem Ch.nodup (h : Ch b gl gn n m ls w) {k : Nat} (hk : k < m) : (ls k).Nodup := by
  obtain ⟨cl, cn, R, Ah, Be, L, h, hI⟩ := h; exact hI.nodup k hk
theorem push_ok (k x : Nat) (h : Ch b gl gn n m ls w) (hk : k < m) (hx : x < n) (hf : ∀ j, j < m → x ∉ ls j) :
    Calls Try.prog 51 #[.pointer (some ⟨b, 0, none⟩), .int .i64 k, .int .i64 x] w fun e w' => e = .returned (.int .i64 0) ∧ Ch b gl gn n m (updL ls k (ls k ++ [x])) w' ∧ But (Own3 b gl gn) w w' := by
  have hlen := h.len_le hk
  obtain ⟨cl, cn, R, Ah, Be, L, h, hI⟩ := h
  have hR : R x = -1 := by
    rcases hI.free x hx with ⟨q, _⟩ | ⟨j, hj, _, q⟩
    · exact q
    · exact absurd q (hf j hj)
  obtain ⟨a, ha⟩ := getLast_cons_some (n + k) (ls k)
  have hA := ((hI.row k hk).last ha).1
  have hal : a < n + m := by
    rcases List.mem_cons.1 (List.mem_of_getLast? ha) with q | q
    · omega
    · have := (hI.mem k hk a q).1; omega
  have hL := hI.lens k hk
  refine (push_raw k x a h hk hx hR hA hal (.inr (by have := h.hn; omega))).mono fun e w' ⟨he, hV, hG⟩ => ⟨he, ⟨cl, cn, _, _, _, _, hV, ?_⟩, hG⟩
  exact hI.push hk hx hR ha
theorem push_in (k x j : Nat) (h : Ch b gl gn n m ls w) (hk : k < m) (hj : j < m) (hx : x ∈ ls j) :
    Calls Try.prog 51 #[.pointer (some ⟨b, 0, none⟩), .int .i64 k, .int .i64 x] w fun e w' => e = .returned (.int .i64 9) ∧ w = w' := by
  obtain ⟨cl, cn, R, Ah, Be, L, h, hI⟩ := h
  have := hI.mem j hj x hx
  exact push_twice k x h hk this.1 (by omega)
theorem push_out (k x : Int) (h : Ch b gl gn n m ls w) (hq : inB k m = false ∨ inB x n = false) :
    Calls Try.prog 51 #[.pointer (some ⟨b, 0, none⟩), .int .i64 k, .int .i64 x] w fun e w' => e = .returned (.int .i64 1) ∧ w = w' := by
  obtain ⟨cl, cn, R, Ah, Be, L, h, hI⟩ := h
  exact push_arg k x h hq
theorem remove_ok (k x : Nat) (ys ws : List Nat) (h : Ch b gl gn n m ls w) (hk : k < m) (hl : ls k = ys ++ x :: ws) :
    Calls Try.prog 82 #[.pointer (some ⟨b, 0, none⟩), .int .i64 x] w fun e w' => e = .returned (.tuple #[.int .i64 k, .int .i64 0]) ∧ Ch b gl gn n m (updL ls k (ys ++ ws)) w' ∧ But (Own3 b gl gn) w w' := by
  have hlen := h.len_le hk
  obtain ⟨cl, cn, R, Ah, Be, L, h, hI⟩ := h
  have hxm : x ∈ ls k := by rw [hl]; simp
  obtain ⟨hx, hR⟩ := hI.mem k hk x hxm
  obtain ⟨a, ha⟩ := getLast_cons_some (n + k) ys
  obtain ⟨c, hc⟩ := head_snoc_some (n + k) ws
  obtain ⟨hA, hB, hI'⟩ := hI.remove hk hl ha hc
  have hal : a < n + m := by
    rcases List.mem_cons.1 (List.mem_of_getLast? ha) with q | q
    · omega
    · have := (hI.mem k hk a (by rw [hl]; simp [q])).1; omega
  have hcl : c < n + m := by
    have : c ∈ ws ++ [n + k] := List.mem_of_mem_head? (by rw [hc]; rfl)
    rcases List.mem_append.1 this with q | q
    · have := (hI.mem k hk c (by rw [hl]; simp [q])).1; omega
    · simp at q; omega
  have hL := hI.lens k hk
  exact (remove_raw k x a c h hk hx hR hA hB hal hcl (by have := h.hn; omega)).mono fun e w' ⟨he, hV, hG⟩ => ⟨he, ⟨cl, cn, _, _, _, _, hV, hI'⟩, hG⟩
theorem remove_out (x : Int) (h : Ch b gl gn n m ls w) (hx : inB x n = false) :
    Calls Try.prog 82 #[.pointer (some ⟨b, 0, none⟩), .int .i64 x] w fun e w' => e = .returned (.tuple #[.int .i64 0, .int .i64 1]) ∧ w = w' := by
  obtain ⟨cl, cn, R, Ah, Be, L, h, hI⟩ := h
  exact remove_arg x h hx
theorem remove_free (x : Nat) (h : Ch b gl gn n m ls w) (hx : x < n) (hf : ∀ j, j < m → x ∉ ls j) :
    Calls Try.prog 82 #[.pointer (some ⟨b, 0, none⟩), .int .i64 x] w fun e w' => e = .returned (.tuple #[.int .i64 0, .int .i64 3]) ∧ But Nob w w' := by
  obtain ⟨cl, cn, R, Ah, Be, L, h, hI⟩ := h
  have hR : R x = -1 := by
    rcases hI.free x hx with ⟨q, _⟩ | ⟨j, hj, _, q⟩
    · exact q
    · exact absurd q (hf j hj)
  exact remove_none x h hx hR
/-- The first of a row of nodes, told as the program tells it. -/
def hd (l : List Nat) : Int := (l.head?.getD 0 : Nat)
theorem firstc_ok (k : Nat) (h : Ch b gl gn n m ls w) (hk : k < m) :
    Calls Try.prog 81 #[.pointer (some ⟨b, 0, none⟩), .int .i64 k] w fun e w' => e = .returned (.tuple #[.int .i64 (hd (ls k)), .bool (!(ls k).isEmpty)]) ∧ w = w' := by
  obtain ⟨cl, cn, R, Ah, Be, L, h, hI⟩ := h
  have hB := (hI.row k hk).fst
  have := first_raw k _ h hk hB
  cases hl : ls k with
  | nil =>
    rw [hl, show ([] : List Nat).head?.getD (n + k) = n + k from rfl, if_neg (by omega), decide_eq_false (by omega)] at this
    exact this
  | cons x t =>
    have hx := (hI.mem k hk x (by rw [hl]; simp)).1
    rw [hl] at this; simpa [hd, hx] using this
theorem firstc_out (k : Int) (h : Ch b gl gn n m ls w) (hk : inB k m = false) :
    Calls Try.prog 81 #[.pointer (some ⟨b, 0, none⟩), .int .i64 k] w fun e w' => e = .returned (.tuple #[.int .i64 0, .bool false]) ∧ w = w' := by
  obtain ⟨cl, cn, R, Ah, Be, L, h, hI⟩ := h
  exact first_out k h hk
set_option maxRecDepth 100000 in
set_option maxHeartbeats 2000000 in
theorem pop_ok (k x : Nat) (ws : List Nat) (h : Ch b gl gn n m ls w) (hk : k < m) (hl : ls k = x :: ws) :
    Calls Try.prog 52 #[.pointer (some ⟨b, 0, none⟩), .int .i64 k] w fun e w' => e = .returned (.tuple #[.int .i64 x, .bool true]) ∧ Ch b gl gn n m (updL ls k ws) w' ∧ But (Own3 b gl gn) w w' := by
  have hf := firstc_ok k h hk
  rw [hl, show hd (x :: ws) = (x : Int) from rfl, show (!(x :: ws).isEmpty) = true from rfl] at hf
  have hr := remove_ok k x [] ws h hk hl
  rw [List.nil_append] at hr
  have HF := Lib.hid hf; have HR := Lib.hid hr; clear hf hr h hl
  go_enter Try.func52, Try.ntmps52
  go_wp2_with (first
    | (go_at_call 81; (with_reducible refine HF.out.mono ?_); rintro e wq ⟨rfl, rfl⟩)
    | (go_at_call 82; (with_reducible refine HR.out.mono ?_); rintro e w1 ⟨rfl, h1, hG1⟩; have H1 := Lib.hid h1; have HG1 := Lib.hid hG1; clear h1 hG1))
  go_ret2
  exact ⟨rfl, H1.out, HG1.out⟩
set_option maxHeartbeats 2000000 in
theorem pop_none {p : Option Addr} (k : Int) (hf : Calls Try.prog 81 #[.pointer p, .int .i64 k] w fun e w' => e = .returned (.tuple #[.int .i64 0, .bool false]) ∧ w = w') :
    Calls Try.prog 52 #[.pointer p, .int .i64 k] w fun e w' => e = .returned (.tuple #[.int .i64 0, .bool false]) ∧ w = w' := by
  have HF := Lib.hid hf; clear hf
  go_enter Try.func52, Try.ntmps52
  go_wp2_with (first
    | (go_at_call 81; (with_reducible refine HF.out.mono ?_); rintro e wq ⟨rfl, rfl⟩))
  go_ret2
  exact ⟨rfl, rfl⟩
end
end Go.Proofs.Ytdlncbndhljhfaa
