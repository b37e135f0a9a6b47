/- A ring's Put. -/
import Derived.Test.YtlgdeadghmbfmaaRw
import Derived.Test.YtlgdeadghmbfmaaRv
namespace Go.Proofs.Ytlgdeadghmbfmaa
open Go.RowKit

/-- A list with a thing at a place more. -/
def ins (l : List Int) (i : Nat) (x : Int) : List Int := l.take i ++ x :: l.drop i
theorem ins_length {l : List Int} {i : Nat} {x : Int} (hi : i ≤ l.length) : (ins l i x).length = l.length + 1 := by simp [ins]; omega
theorem ins_get {l : List Int} {i : Nat} {x : Int} (hi : i ≤ l.length) (j : Nat) : (ins l i x)[j]?.getD 0 = if j < i then l[j]?.getD 0 else if j = i then x else l[j - 1]?.getD 0 := by
  unfold ins
  by_cases h : j < i
  · rw [List.getElem?_append_left (by simp; omega), if_pos h, List.getElem?_take, if_pos h]
  · rw [List.getElem?_append_right (by simp; omega), if_neg h, List.length_take, Nat.min_eq_left hi]
    by_cases e : j = i
    · subst e; simp
    · rw [if_neg e, show j - i = (j - i - 1) + 1 by omega, List.getElem?_cons_succ, List.getElem?_drop, show i + (j - i - 1) = j - 1 by omega]
/-- What widen gives, for any ring with room. -/
def WidQ (b : Nat) (G : Option Nat) (l : List Int) (room : Nat) (w : World) (e : Ending) (w' : World) : Prop :=
  ∃ g m first V, e = .returned (.tuple #[]) ∧ RgV b g m room first l.length V w' ∧ l.length < m ∧ (∀ j, j < l.length → V j = l[j]?.getD 0) ∧ (Own2 b G g ∨ w.heap.size ≤ g) ∧ But (Of b) w w'
theorem widen_any (b : Nat) (G : Option Nat) (l : List Int) (room : Nat) (w : World) (h : Rg b G l room w) (hr : l.length < room) :
    Calls Try.prog 57 #[.pointer (some ⟨b, 0, none⟩)] w (WidQ b G l room w) := by
  rcases h with ⟨_, rfl, hl, h⟩ | ⟨g, m, first, V, rfl, h, hV⟩
  · refine (widen_nil b room (fun _ => 0) w h hr hl).mono fun e w' ⟨g, m, V', q1, q2, q3, q4, q5, q6⟩ => ⟨g, m, 0, V', q1, q3, q4, fun j hj => absurd hj (by simp), .inr q2, q6⟩
  · by_cases hn : l.length < m
    · exact (widen_room b g m room first l.length V w h hn).mono fun e w' ⟨q1, q2, q3⟩ => ⟨g, m, first, V, q1, q2, hn, hV, .inl (.inr rfl), q3.nob⟩
    · obtain rfl : m = l.length := by have := h.hn; omega
      exact (widen_full b g room first l.length V w h hr).mono fun e w' ⟨g', m, V', q1, q2, q3, q4, q5, q6⟩ => ⟨g', m, 0, V', q1, q3, q4, fun j hj => (q5 j hj).trans (hV j hj), .inr q2, q6⟩
/-- What Put gives. -/
def PutP (b : Nat) (G : Option Nat) (l : List Int) (room : Nat) (w : World) (e : Ending) (w' : World) : Prop :=
  e = .returned (.bool true) ∧ ∃ g, Rg b (some g) l room w' ∧ (Own2 b G g ∨ w.heap.size ≤ g) ∧ But (Own2 b G) w w'
theorem put_end {b : Nat} {G : Option Nat} {l : List Int} {room g m first i : Nat} {V W : Nat → Int} {x : Int} {w w' : World} (hi : i ≤ l.length) (h : RgV b g m room first (l.length + 1) W w') (hg : Own2 b G g ∨ w.heap.size ≤ g) (hb : But (Own2 b G) w w')
    (hV : ∀ j, j < l.length → V j = l[j]?.getD 0) (hW : ∀ j, j < l.length + 1 → W j = if j < i then V j else if j = i then x else V (j - 1)) : PutP b G (ins l i x) room w (.returned (.bool true)) w' := by
  refine ⟨rfl, g, .inr ⟨g, m, first, W, rfl, by rw [ins_length hi]; exact h, fun j hj => ?_⟩, hg, hb⟩
  rw [ins_length hi] at hj
  rw [hW j hj, ins_get hi]
  by_cases q : j < i
  · rw [if_pos q, if_pos q, hV j (by omega)]
  · rw [if_neg q, if_neg q]
    by_cases e : j = i
    · rw [if_pos e, if_pos e]
    · rw [if_neg e, if_neg e, hV (j - 1) (by omega)]
set_option maxRecDepth 100000 in
set_option maxHeartbeats 4000000 in
theorem put_front (b : Nat) (G : Option Nat) (l : List Int) (room i : Nat) (x : Int) (w : World) (h : Rg b G l room w) (hr : l.length < room) (hi : i < (l.length + 1) / 2) :
    Calls Try.prog 23 #[.pointer (some ⟨b, 0, none⟩), .int .i64 i, .int .i64 x] w (PutP b G (ins l i x) room w) := by
  have hlen := len_any b l.length w h.head.1
  have hrm := room_any b room w h.head.2
  have hwd := widen_any b G l room w h hr
  have hr4 := h.room_le
  have hblt := h.lt
  obtain ⟨n, hn⟩ : ∃ n, n = l.length := ⟨_, rfl⟩
  rw [← hn] at hlen hr hi
  have HL := Lib.hid hlen; have HR := Lib.hid hrm; have HW := Lib.hid hwd; have HN := Lib.hid hn; clear hlen hrm hwd h hn
  obtain ⟨d, hd⟩ : ∃ d, d = (n + 1) / 2 := ⟨_, rfl⟩
  have hd1 : ((n : Int) + 1).tdiv 2 = (d : Int) := by rw [Int.tdiv_eq_ediv_of_nonneg (by omega)]; omega
  have hd2 : ((n : Int) + 1) / 2 = (d : Int) := by omega
  have hid : i < d := by omega
  clear hd
  have t0 : decide ((i : Int) < 0) = false := by simp
  have t1 : decide (n < i) = false := by simp; omega
  have t2 : ((n : Int) == (room : Int)) = false := by simp; omega
  have t3 : decide (i < d) = true := by simpa using hid
  have s1 : IntKind.i64.wrap ((n : Int) + 1) = (n : Int) + 1 := IntWalk.i64_in _ (by omega)
  go_enter Try.func23, Try.ntmps23
  go_wp2_with (first
    | (go_at_call 26; (with_reducible refine HL.out.mono ?_); rintro e wq ⟨rfl, rfl⟩)
    | (go_at_call 16; (with_reducible refine HR.out.mono ?_); rintro e wq ⟨rfl, rfl⟩)
    | (go_at_call 57; (with_reducible refine HW.out.mono ?_); rintro e w1 ⟨g, m, first, V, rfl, hR1, hnm, hV, hg, hG1⟩
       rw [← HN.out] at hR1 hnm hV
       obtain ⟨c0, c1, c2, c3⟩ := hR1.cells
       have f2 := hR1.own.free 2
       have HR1 := Lib.hid hR1; have HV := Lib.hid hV; have HG1 := Lib.hid hG1; clear hR1 hV hG1
       have hR2 := HR1.out.setN (k := n + 1) (by omega)
       rw [show ((n + 1 : Nat) : Int) = (n : Int) + 1 by omega] at hR2
       have c22 := hR2.cells.2.2.1
       rw [show ((n + 1 : Nat) : Int) = (n : Int) + 1 by omega] at c22
       have HT := Lib.hid (turn_bwd b g m room first (n + 1) V _ hR2); clear hR2
       have hG2 := Lib.hid (((HG1.out.mono (Y := Own2 b G) fun q _ hq => .inl hq)).set ⟨b, 2, none⟩ (.int .i64 ((n : Int) + 1)) (.inl (.inl rfl))))
    | (go_at_call 58; (with_reducible refine HT.out.mono ?_); rintro e w2 ⟨rfl, hR3, hG3⟩
       have HG3 := Lib.hid (hG2.out.step hG3 fun q _ hq => .inl hq)
       have HR3 := Lib.hid hR3; clear hR3 hG3 c22 c0 c1 c2 c3 f2))
  obtain ⟨p, hp⟩ : ∃ p, p = (first + (m - 1)) % m := ⟨_, rfl⟩
  have HR4 : Hid (RgV b g m room p (n + 1) (bwd m V) w2) := by rw [hp]; exact HR3.out
  clear hp HR3
  have hXg : Hid (Own2 b G g ∨ w.heap.size ≤ g) := hg
  have hm : n + 1 ≤ m := hnm
  go_loopw [43, 7] (fun t _ wr => ∃ (k : Nat) (U : Nat → Int), k ≤ i ∧ t = .int .i64 k ∧ RgV b g m room p (n + 1) U wr ∧ (∀ j, U j = if j < k then bwd m V (j + 1) else bwd m V j) ∧ But (Own2 b G) w wr) (fun t _ _ => i - (intOf t).toNat)
  case atStart => exact ⟨0, _, Nat.zero_le _, rfl, HR4.out, fun j => by rw [if_neg (by omega)], HG3.out⟩
  case round =>
    obtain ⟨k, U, hk, rfl, hR, hU, hG⟩ := hrel
    have HU := Lib.hid hU; have HG := Lib.hid hG; clear hU hG
    by_cases hlt : k < i
    · have q0 : IntKind.i64.wrap ((k : Int) + 1) = (k : Int) + 1 := IntWalk.i64_in _ (by omega)
      have hs1 := slot_any b g m room p (n + 1) U k wr hR (by omega)
      have HS1 := Lib.hid hs1; clear hs1 hR
      go_wp2_with fail
      refine HS1.out.mono ?_
      rintro e w4 ⟨rfl, hR5, hG5⟩
      have hs2 := slot_any b g m room p (n + 1) U (k + 1) w4 hR5 (by omega)
      rw [show ((k + 1 : Nat) : Int) = (k : Int) + 1 by omega] at hs2
      have HS2 := Lib.hid hs2; have HG5 := Lib.hid hG5; clear hs2 hR5 hG5
      go_wp2_with fail
      refine HS2.out.mono ?_
      rintro e w5 ⟨rfl, hR6, hG6⟩
      have hld := hR6.load (i := k + 1) (by omega)
      have hld0 := hR6.load (i := k) (by omega)
      have hfr := hR6.free ((p + k) % m)
      have HG6 := Lib.hid hG6; have HR6 := Lib.hid hR6; clear hG6 hR6
      go_wp2_with fail
      go_roundw
      case rel =>
        refine ⟨k + 1, upd U k (U (k + 1)), by omega, by go_num, HR6.out.store (by omega) _, fun j => ?_, ((HG.out.trans HG5.out.nob).trans HG6.out.nob).set ⟨g, _, none⟩ _ hXg.out⟩
        unfold upd
        rw [HU.out j, HU.out (k + 1), if_neg (show ¬ k + 1 < k by omega)]
        by_cases e1 : j = k
        · subst e1; rw [if_pos rfl, if_pos (by omega)]
        · rw [if_neg e1]
          by_cases e2 : j < k
          · rw [if_pos e2, if_pos (by omega)]
          · rw [if_neg e2, if_neg (by omega)]
      case measure => simp [intOf]; omega
    · have hki : k = i := by omega
      have t : decide (k < i) = false := by simp; omega
      have HK := Lib.hid hki; clear hki
      have hs1 := slot_any b g m room p (n + 1) U i wr hR (by omega)
      have HS1 := Lib.hid hs1; clear hs1 hR
      go_wp2_with fail
      refine HS1.out.mono ?_
      rintro e w4 ⟨rfl, hR5, hG5⟩
      have hld0 := hR5.load (i := i) (by omega)
      have hfr := hR5.free ((p + i) % m)
      have HG5 := Lib.hid hG5; have HR5 := Lib.hid hR5; clear hG5 hR5
      go_wp2_with fail
      go_ret
      have hn' := HN.out
      refine put_end (V := V) (W := upd U i x) (by omega) (by rw [← hn']; exact HR5.out.store (by omega) x) hXg.out ((HG.out.trans HG5.out.nob).set ⟨g, _, none⟩ _ hXg.out) (by rw [← hn']; exact HV.out) ?_
      rw [← hn']
      intro j hj
      unfold upd
      rw [HU.out j, HK.out]
      unfold bwd
      by_cases e1 : j = i
      · subst e1; rw [if_pos rfl, if_neg (by omega), if_pos rfl]
      · rw [if_neg e1, if_neg e1]
        by_cases e2 : j < i
        · rw [if_pos e2, if_pos e2, show j + 1 + (m - 1) = j + m by omega, Nat.add_mod_right, Nat.mod_eq_of_lt (by omega)]
        · rw [if_neg e2, if_neg e2, show j + (m - 1) = (j - 1) + m by omega, Nat.add_mod_right, Nat.mod_eq_of_lt (by omega)]
end Go.Proofs.Ytlgdeadghmbfmaa
