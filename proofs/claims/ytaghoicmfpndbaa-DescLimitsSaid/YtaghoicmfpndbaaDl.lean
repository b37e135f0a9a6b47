/- The contract of desc.All. -/
import Derived.Test.YtaghoicmfpndbaaRk
import Derived.Test.YtaghoicmfpndbaaShelf
import Derived.Laws.AppendOwn
import Derived.Deep.AppendLies
namespace Go.Proofs.Ytaghoicmfpndbaa
open Go.RowKit

theorem next_ok (b : Nat) (s : ByteArray) (i k E : Nat) (w : World) (h : Rd b s i w) (hi : i < s.size) (hs : s.size ≤ 100000) (hk : tokK (byteAt s i) = k) (hk0 : k ≠ 0) (hE : tokE (byteAt s) s.size i = E) (hn : ¬ (k = 1 ∧ 32 < E - i)) :
    Calls Try.prog 24 #[.pointer (some ⟨b, 0, none⟩)] w fun e w' => e = .returned (.tuple #[.agg (tokC s k i E), .int .i64 0]) ∧ Adv b s E w w' := by
  unfold tokK at hk
  unfold tokE at hE
  by_cases b1 : lowB (byteAt s i) = true
  · rw [if_pos b1] at hk hE
    subst hk
    exact next_word b s i w E hE (by omega) h hi hs b1
  · have b1' : lowB (byteAt s i) = false := by simpa using b1
    rw [if_neg b1] at hk hE
    by_cases b2 : digB (byteAt s i) = true
    · rw [if_pos b2] at hk hE
      subst hk
      exact next_list b s i w E hE h hi hs b1' b2
    · have b2' : digB (byteAt s i) = false := by simpa using b2
      rw [if_neg b2] at hk hE
      by_cases b3 : signB (byteAt s i) = true
      · rw [if_pos b3] at hk
        subst hk hE
        exact next_sign b s i w h hi hs b1' b2' b3
      · rw [if_neg b3] at hk
        exact absurd hk.symm hk0
/-- A token that is none: the error's number and the place. -/
theorem next_bad (b : Nat) (s : ByteArray) (i er : Nat) (w : World) (h : Rd b s i w) (hi : i < s.size) (hs : s.size ≤ 100000)
    (hb : (tokK (byteAt s i) = 0 ∧ er = 20) ∨ (tokK (byteAt s i) = 1 ∧ 32 < tokE (byteAt s) s.size i - i ∧ er = 2)) :
    Calls Try.prog 24 #[.pointer (some ⟨b, 0, none⟩)] w fun e w' => ∃ (x0 : Int) (x1 : ByteArray) (j : Nat), e = .returned (.tuple #[.agg #[.int .i64 x0, .string x1, .int .i64 i, .int .i64 (lineA (byteAt s) i), .int .i64 (colA (byteAt s) i)], .int .i64 er]) ∧ Adv b s j w w' := by
  by_cases b1 : lowB (byteAt s i) = true
  · have hk : tokK (byteAt s i) = 1 := by unfold tokK; rw [if_pos b1]
    obtain ⟨hk1, -⟩ | ⟨-, he, rfl⟩ := hb
    · omega
    · have hE : tokE (byteAt s) s.size i = runEnd nameB (byteAt s) s.size i := by unfold tokE; rw [if_pos b1]
      rw [hE] at he
      exact (next_long b s i w _ rfl he h hi hs b1).mono fun e w' ⟨he, hA⟩ => ⟨_, _, _, he, hA⟩
  · have b1' : lowB (byteAt s i) = false := by simpa using b1
    by_cases b2 : digB (byteAt s i) = true
    · have hk : tokK (byteAt s i) = 2 := by unfold tokK; rw [if_neg b1, if_pos b2]
      omega
    · have b2' : digB (byteAt s i) = false := by simpa using b2
      by_cases b3 : signB (byteAt s i) = true
      · have hk : tokK (byteAt s i) = 3 := by unfold tokK; rw [if_neg b1, if_neg b2, if_pos b3]
        omega
      · have b3' : signB (byteAt s i) = false := by simpa using b3
        have hk : tokK (byteAt s i) = 0 := by unfold tokK; rw [if_neg b1, if_neg b2, if_neg b3]
        obtain ⟨-, rfl⟩ | ⟨hk1, -⟩ := hb
        · exact (next_byte b s i w h hi b1' b2' b3').mono fun e w' ⟨he, hA⟩ => ⟨_, _, _, he, hA⟩
        · omega
/-- Tokens as they lie in a row. -/
def toksC (s : ByteArray) (l : List Tok) : List Value := l.flatMap fun t => (tokC s t.kind t.a t.e).toList
theorem toksC_len (s : ByteArray) (l : List Tok) : (toksC s l).length = l.length * 5 := by
  induction l with
  | nil => rfl
  | cons t l ih => simp only [toksC, List.flatMap_cons, List.length_append, List.length_cons] at ih ⊢; rw [ih]; simp [tokC]; omega
theorem toksC_snoc (s : ByteArray) (l : List Tok) (t : Tok) : toksC s (l ++ [t]) = toksC s l ++ (tokC s t.kind t.a t.e).toList := by simp [toksC]
/-- What a whole text comes to: its tokens; or none, the error's number, its place. -/
def resR (s : ByteArray) : List Tok × Nat × Nat :=
  if 65536 < s.size then ([], 2, 0)
  else if (lexAt (byteAt s) s.size 0).2.1 = 0 then lexAt (byteAt s) s.size 0 else ([], (lexAt (byteAt s) s.size 0).2)
/-- The place that goes with it. -/
def plV (s : ByteArray) (r : List Tok × Nat × Nat) : Value := .agg (if r.2.1 = 0 then #[.int .i64 0, .int .i64 0, .int .i64 0] else plC (byteAt s) r.2.2)
/-- Three results: a row of tokens, an error's number, a place. -/
def AllPost (s : ByteArray) (B : Nat) (w : World) (r : List Tok × Nat × Nat) (e : Ending) (w' : World) : Prop :=
  ∃ v, e = .returned (.tuple #[v, .int .i64 r.2.1, plV s r]) ∧ w'.ownsRow B 33 5 v r.1.length (toksC s r.1) ∧ Below B w w'
theorem res_all {fn : Func} {R : Ending → World → Prop} {a : Act} {w : World} {t u v : Tmp} (h : fn.results = #[.tmp u, .tmp v, .cell t 26]) (g : Nat) (x0 x1 x2 : Value)
    (hp : a.tmps.getD t undef = .pointer (some ⟨g, 0, none⟩)) (hg : Pl g x0 x1 x2 w) (hd : a.defers = [])
    (hR : R (.returned (.tuple #[a.tmps.getD u undef, a.tmps.getD v undef, .agg #[x0, x1, x2]])) w) : bodyPost Try.prog fn R .ret a w := by
  have hp' : a.tmps[t]?.getD undef = .pointer (some ⟨g, 0, none⟩) := by simpa using hp
  refine bodyPost_ret (v := .tuple #[a.tmps.getD u undef, a.tmps.getD v undef, .agg #[x0, x1, x2]]) ?_ hd hR
  obtain ⟨c0, c1, c2, cf⟩ := hg.cells
  simp [results, h, hp', asAddr, go_sem, c0, c1, c2]
/-- What holds at the loop's head. -/
structure AlInv (s : ByteArray) (B b : Nat) (w : World) (j : Nat) (done : List Tok) (v : Value) (wx : World) : Prop where
  bel : Below B w wx
  rd : Rd b s j wx
  pl : Pl B (.int .i64 0) (.int .i64 0) (.int .i64 0) wx
  own : wx.ownsRow (b + 1) 33 5 v done.length (toksC s done)
  lex : lexAt (byteAt s) s.size 0 = (done ++ (lexAt (byteAt s) s.size j).1, (lexAt (byteAt s) s.size j).2)
  le : j ≤ s.size
  beg : j = s.size ∨ (blankB (byteAt s j) = false ∧ byteAt s j ≠ 35)
  len : done.length ≤ j
set_option maxHeartbeats 2000000 in
theorem all_big (s : ByteArray) (w : World) (hs : s.size ≤ 100000) (hb : 65536 < s.size) :
    Calls Try.prog 9 #[.string s] w (AllPost s w.heap.size w ([], 2, 0)) := by
  have hd : decide (65536 < s.size) = true := by simpa using hb
  have P0 := Lib.hid (pl_new w (.int .i64 0) (.int .i64 0) (.int .i64 0))
  have B0 := Lib.hid ((Below.refl w.heap.size w).alloc (Nat.le_refl _) (.cells #[.int .i64 0, .int .i64 0, .int .i64 0] 26))
  have HA : Hid (∀ W, Calls Try.prog 18 #[.string s, .int .i64 0] W fun e w' => e = .returned (.agg (plC (byteAt s) 0)) ∧ Below W.heap.size W w') := fun W => at_in s 0 (by omega) W hs
  go_enter Try.func9, Try.ntmps9
  go_wp2_with fail
  refine (HA.out _).mono ?_
  rintro e w1 ⟨rfl, h1⟩
  have P1 := Lib.hid (P0.out.keep (h1.block _ (by simp)))
  have B1 := Lib.hid (B0.out.trans (h1.mono (by simp)))
  obtain ⟨y0, y1, y2, yf⟩ := P1.out.cells
  have f0 := yf 0; have f1 := yf 1; have f2 := yf 2
  clear yf h1 P0 B0
  unfold plC
  go_wp2_with fail
  refine res_all rfl w.heap.size _ _ _ rfl (((P1.out.set0 _).set1 _).set2 _) rfl ⟨_, rfl, World.ownsRow_nil _ _ _ _, ?_⟩
  exact ((B1.out.setCell (Nat.le_refl _) _).setCell (Nat.le_refl _) _).setCell (Nat.le_refl _) _
theorem clone_any (s : ByteArray) (w : World) (hs : s.size ≤ 100000) :
    Calls Try.prog 21 #[.string s] w fun e w' => e = .returned (.string s) ∧ Below w.heap.size w w' := by
  go_enter Try.func21, Try.ntmps21
  go_wp2_with (go_at_call 29; (with_reducible refine (Try.stringslite_Clone _ _ (by omega)).mono ?_); rintro e w1 ⟨rfl, h1⟩)
  go_ret
  exact ⟨rfl, h1⟩
theorem infoTk : (Try.prog.info? 33).map (fun i => (i.zero, i.size, i.bytes)) = some (some (.agg #[.int .i64 0, .string { data := #[] }, .int .i64 0, .int .i64 0, .int .i64 0]), 5, 48) := by kernel_rfl
theorem own_adv {b : Nat} {s : ByteArray} {i n : Nat} {w w' : World} {v : Value} {xs : List Value} (h : w.ownsRow (b + 1) 33 5 v n xs) (ha : Adv b s i w w') : w'.ownsRow (b + 1) 33 5 v n xs :=
  h.kept ha.1 (.inr (by intro e; have := h.lt _ e; omega))
theorem own_form {w : World} {B n : Nat} {v : Value} {xs : List Value} (h : w.ownsRow B 33 5 v n xs) : ∃ a cap, v = .slice a n cap := by
  rcases h.2 with ⟨rfl, rfl⟩ | ⟨g, cap, cur, rfl, _⟩
  · exact ⟨none, 0, rfl⟩
  · exact ⟨_, cap, rfl⟩
theorem own_mono {w : World} {B B' n : Nat} {v : Value} {xs : List Value} (h : w.ownsRow B 33 5 v n xs) (hB : B' ≤ B) : w.ownsRow B' 33 5 v n xs := by
  refine ⟨h.1, ?_⟩
  rcases h.2 with e | ⟨g, cap, cur, e1, e2, rest⟩
  · exact .inl e
  · exact .inr ⟨g, cap, cur, e1, by omega, rest⟩
theorem Skipped.lexd {s : ByteArray} {i j : Nat} (h : Skipped s i j) : lexAt (byteAt s) s.size i = lexAt (byteAt s) s.size j := h.2.2.1
set_option maxHeartbeats 4000000 in
theorem all_in (s : ByteArray) (w : World) (hs : s.size ≤ 65536) :
    Calls Try.prog 9 #[.string s] w (AllPost s w.heap.size w (resR s)) := by
  have hd : decide ((65536 : Int) < (s.size : Int)) = false := by simp; omega
  have P0 := Lib.hid (pl_new w (.int .i64 0) (.int .i64 0) (.int .i64 0))
  have B0 := Lib.hid ((Below.refl w.heap.size w).alloc (Nat.le_refl _) (.cells #[.int .i64 0, .int .i64 0, .int .i64 0] 26))
  obtain ⟨RR, hRR⟩ : ∃ RR, resR s = RR := ⟨_, rfl⟩
  rw [hRR]
  unfold resR at hRR
  rw [if_neg (by omega)] at hRR
  have HR := Lib.hid hRR; clear hRR
  have hs2 : s.size ≤ 100000 := by omega
  have HH := Lib.hid hs; clear hs
  go_enter Try.func9, Try.ntmps9
  go_wp2_with (first | (go_at_call 21; (with_reducible refine (clone_any _ _ hs2).mono ?_); rintro e w1 ⟨rfl, h1⟩) | (go_at_call 20; (with_reducible refine (begin_any _ _).mono ?_); rintro e w2 ⟨rfl, h2⟩))
  have D2 := Lib.hid (rd_new w2 s)
  have k1 : w.heap.size < w1.heap.size := Nat.lt_of_lt_of_le (by simp) h1.size
  have k2 : w.heap.size < w2.heap.size := Nat.lt_of_lt_of_le k1 h2.size
  have P2 := Lib.hid (((P0.out.keep (h1.block _ (by simp))).keep (h2.block _ k1)).keep (Below.heap_alloc w2 (.cells #[.int .i64 0, .int .i64 1, .int .i64 1, .string s] 42) _ k2))
  have B2 := Lib.hid (((B0.out.trans (h1.mono (by simp))).trans (h2.mono (by omega))).alloc (by omega) (.cells #[.int .i64 0, .int .i64 1, .int .i64 1, .string s] 42))
  have z2 : (w2.alloc (.cells #[.int .i64 0, .int .i64 1, .int .i64 1, .string s] 42)).heap.size = w2.heap.size + 1 := by simp
  have Z2 := Lib.hid z2; clear z2
  clear h1 h2 P0 B0 k1
  generalize hB : w.heap.size = B at *
  have HB := Lib.hid hB; clear hB
  generalize hX : w2.alloc (.cells #[.int .i64 0, .int .i64 1, .int .i64 1, .string s] 42) = X at *
  have HX := Lib.hid hX; clear hX
  generalize w2.heap.size = b at *
  refine (skip_any b s 0 _ D2.out (by omega) hs2).mono ?_
  rintro e w3 ⟨rfl, j0, hS, hA⟩
  have I0 : AlInv s B b w j0 [] (.slice none 0 0) w3 := {
    bel := Below.grown B2.out hA.1 (by rw [Z2.out]; omega) (fun k hk => by cases hk; omega)
    rd := hA.at
    pl := P2.out.keep (hA.1.block _ P2.out.lt (by simp; omega))
    own := World.ownsRow_nil _ _ _ _
    lex := by rw [hS.lexd]; simp
    le := hS.2.1
    beg := hS.2.2.2
    len := by simp }
  have J0 := Lib.hid I0
  clear I0 hA hS D2 P2 B2 Z2
  go_wp2_with fail
  go_loopg [5] (s.size - j0) (fun g v wx => ∃ j done, g = s.size - j ∧ Hid (AlInv s B b w j done v wx))
  case atStart => exact ⟨j0, [], rfl, J0⟩
  case round =>
    obtain ⟨j, done, hg, hI⟩ := hrel
    have HG := Lib.hid hg; clear hg J0
    have I := hI.out
    have hrd := Lib.hid I.rd
    by_cases hlt : j < s.size
    · obtain ⟨hbl, h35⟩ : blankB (byteAt s j) = false ∧ byteAt s j ≠ 35 := by
        rcases I.beg with e | e
        · omega
        · exact e
      by_cases hbad : tokK (byteAt s j) = 0 ∨ (tokK (byteAt s j) = 1 ∧ 32 < tokE (byteAt s) s.size j - j)
      · obtain ⟨er, her, hlex, hor⟩ : ∃ er : Nat, er ≠ 0 ∧ lexAt (byteAt s) s.size j = ([], er, j) ∧ ((tokK (byteAt s j) = 0 ∧ er = 20) ∨ (tokK (byteAt s j) = 1 ∧ 32 < tokE (byteAt s) s.size j - j ∧ er = 2)) := by
          rcases hbad with h | h
          · exact ⟨20, by omega, lex_byte _ _ _ hlt hbl h35 h, .inl ⟨h, rfl⟩⟩
          · exact ⟨2, by omega, lex_big _ _ _ hlt hbl h35 h.1 h.2, .inr ⟨h.1, h.2, rfl⟩⟩
        have hRR : RR = ([], er, j) := by
          have := HR.out
          rw [I.lex, hlex] at this
          rw [if_neg (by simpa using her)] at this
          exact this.symm
        have NB := Lib.hid (fun W h => next_bad b s j er W h hlt hs2 hor)
        have hne : ((er : Int) != 0) = true := by simp; omega
        have HRR := Lib.hid hRR
        have HLE := Lib.hid hlex
        have HER := Lib.hid her
        clear hbad hor hlex hRR hbl h35 her
        have BEL := Lib.hid I.bel; have PL := Lib.hid I.pl
        clear I hI
        go_wp2_with (first | (go_at_call 23; (with_reducible refine (more_yes b s j _ hrd.out hlt).mono ?_); rintro e w4 ⟨rfl, h4⟩) | (go_at_call 24; (with_reducible refine (NB.out _ h4.at).mono ?_); rintro e w5 ⟨x0, x1, j5, rfl, h5⟩))
        have P5 := Lib.hid (PL.out.keep ((h4.trans h5).1.block _ PL.out.lt (by simp; omega)))
        have z5 := Nat.lt_of_lt_of_le PL.out.lt (h4.trans h5).1.size
        have B5 := Lib.hid (Below.grown BEL.out (h4.trans h5).1 (by have := PL.out.lt; have := hrd.out.lt; omega) (fun k hk => by cases hk; omega))
        clear h4 h5
        have T6 := Lib.hid (tk_new w5 (.int .i64 x0) (.string x1) (.int .i64 j) (.int .i64 (lineA (byteAt s) j)) (.int .i64 (colA (byteAt s) j)))
        have P6 := Lib.hid (P5.out.keep (Below.heap_alloc w5 (.cells #[.int .i64 x0, .string x1, .int .i64 j, .int .i64 (lineA (byteAt s) j), .int .i64 (colA (byteAt s) j)] 33) _ z5))
        have B6 := Lib.hid (B5.out.alloc (by omega) (.cells #[.int .i64 x0, .string x1, .int .i64 j, .int .i64 (lineA (byteAt s) j), .int .i64 (colA (byteAt s) j)] 33))
        generalize w5.alloc (.cells #[.int .i64 x0, .string x1, .int .i64 j, .int .i64 (lineA (byteAt s) j), .int .i64 (colA (byteAt s) j)] 33) = w6 at *
        obtain ⟨t0, t1, t2, t3, t4, tf⟩ := T6.out.cells
        clear t0 t1 tf
        go_still_tail 5, (by kernel_rfl)
        change wpList _ _ _ _ _ w6.drew
        clear t2 t3 t4
        have P7 : Hid (Pl B (.int .i64 0) (.int .i64 0) (.int .i64 0) w6.drew) := P6.out
        have B7 := Lib.hid (B6.out.drew)
        clear P6 B6 T6
        generalize w6.drew = w7 at *
        obtain ⟨y0, y1, y2, yf⟩ := P7.out.cells
        have f0 := yf 0; have f1 := yf 1; have f2 := yf 2
        clear yf
        go_wp2_with fail
        refine res_all rfl B _ _ _ rfl (((P7.out.set0 _).set1 _).set2 _) rfl ⟨.slice none 0 0, ?_, ?_, ?_⟩
        · rw [HRR.out]
          unfold plV
          rw [if_neg HER.out]
          rfl
        · rw [HRR.out]; exact World.ownsRow_nil _ _ _ _
        · exact ((B7.out.setCell (Nat.le_refl _) _).setCell (Nat.le_refl _) _).setCell (Nat.le_refl _) _
      · obtain ⟨k, hk⟩ : ∃ k, tokK (byteAt s j) = k := ⟨_, rfl⟩
        obtain ⟨E, hE⟩ : ∃ E, tokE (byteAt s) s.size j = E := ⟨_, rfl⟩
        have hgt := tokE_gt (byteAt s) s.size j hlt
        rw [hE] at hgt
        have hk0 : k ≠ 0 := fun e => hbad (.inl (hk.trans e))
        have hkl : ¬ (k = 1 ∧ 32 < E - j) := fun e => hbad (.inr ⟨hk.trans e.1, by rw [hE]; exact e.2⟩)
        have hlex := lex_tok (byteAt s) s.size j hlt hbl h35 (by rw [hk]; exact hk0) (by rw [hk, hE]; exact hkl)
        rw [hk, hE] at hlex
        have NX := Lib.hid (fun W h => next_ok b s j k E W h hlt hs2 hk hk0 hE hkl)
        have HLE := Lib.hid hlex
        have BEL := Lib.hid I.bel; have PL := Lib.hid I.pl; have OWN := Lib.hid I.own; have LEX := Lib.hid I.lex
        have hdl := I.len
        obtain ⟨hE1, hE2⟩ := hgt
        clear hbad hk hE hlex hbl h35 hk0 hkl I hI
        obtain ⟨ad, cap, hv⟩ := own_form OWN.out
        subst hv
        obtain ⟨i0, hi0, hz0, hz1, hz2⟩ := info_parts infoTk
        go_wp2_with (first | (go_at_call 23; (with_reducible refine (more_yes b s j _ hrd.out hlt).mono ?_); rintro e w4 ⟨rfl, h4⟩) | (go_at_call 24; (with_reducible refine (NX.out _ h4.at).mono ?_); unfold tokC; rintro e w5 ⟨rfl, h5⟩) | (at_builtin; refine wpList_append_own _ rfl (.tmp 29) (.tmp 31) 23 rfl (b + 1) 33 i0 _ 5 48 Try.underlying23 hi0 hz0 hz1 hz2 rfl (by decide) _ _ _ rfl (((own_adv OWN.out (h4.trans h5)).alloc _).alloc _) ⟨w5.heap.size + 1, 0, none⟩ 1 1 (tokC s k j E).toList rfl rfl ?_ ?_ ?_ ?_ ?_ ?_))
        · have hb := heap_alloc_new (w5.alloc (.cells (tokC s k j E) 33)) (.cells (tokC s k j E) 33)
          rw [World.size_alloc] at hb
          exact World.news_of_block hb
        · intro u hu
          simp [tokC] at hu
          rcases hu with rfl | rfl | rfl | rfl | rfl <;> rfl
        · unfold maxLen; omega
        · omega
        · have := hrd.out.lt
          have := (h4.trans h5).1.size
          simp; omega
        intro v6 w6 own6 g6 _
        have hA5 := h4.trans h5
        have OWN5 := Lib.hid (own_adv OWN.out hA5)
        have hrow : ∀ k, (Value.slice ad done.length cap).ownBlock = some k → b + 1 ≤ k := fun k e => (OWN5.out.lt k e).1
        have z5 := hA5.at.lt
        have D6 : Hid (Rd b s E w6) := by
          refine (g6.block b (by simp; omega) (fun e => by have := hrow b e.symm; omega)).trans ?_
          exact (hA5.at.alloc _).alloc _
        have P5 := PL.out.keep (hA5.1.block _ PL.out.lt (by simp; omega))
        have P6 : Hid (Pl B (.int .i64 0) (.int .i64 0) (.int .i64 0) w6) := by
          refine (P5.keep ((Below.heap_alloc _ _ _ (by simp; omega)).trans (Below.heap_alloc _ _ _ (by omega)))).keep (g6.block B (by simp; omega) (fun e => by have := hrow B e.symm; omega))
        have B6 : Hid (Below B w w6) := by
          have hb5 := Below.grown BEL.out hA5.1 (by have := PL.out.lt; have := hrd.out.lt; omega) (fun k hk => by cases hk; omega)
          exact Below.grown ((hb5.alloc (by omega) _).alloc (by simp; omega) _) g6 (by simp; omega) (fun k hk => by have := hrow k hk; omega)
        have o6 : w6.ownsRow (b + 1) 33 5 v6 (done ++ [(⟨k, j, E⟩ : Tok)]).length (toksC s (done ++ [(⟨k, j, E⟩ : Tok)])) := by
          rw [toksC_snoc]; simpa using own6
        have O6 := Lib.hid o6; clear o6
        clear own6 g6 hA5 h4 h5 OWN5 hrow P5 OWN PL BEL z5
        have hE3 : E ≤ s.size := hE2
        go_wp2_with fail
        refine (skip_any b s E _ D6.out hE3 hs2).mono ?_
        rintro e w7 ⟨rfl, j7, hS, hA⟩
        have I7 : Hid (AlInv s B b w j7 (done ++ [(⟨k, j, E⟩ : Tok)]) v6 w7) := {
          bel := Below.grown B6.out hA.1 (by have := P6.out.lt; omega) (fun k hk => by cases hk; omega)
          rd := hA.at
          pl := P6.out.keep (hA.1.block _ P6.out.lt (by simp; omega))
          own := own_adv O6.out hA
          lex := by rw [LEX.out, HLE.out, hS.lexd]; simp
          le := hS.2.1
          beg := hS.2.2.2
          len := by have := hS.1; simp; omega }
        have hj7 : j < j7 := by have := hS.1; omega
        have hj8 := hS.2.1
        clear hS hA D6 P6 B6 O6
        go_wp2_with fail
        go_roundg (s.size - j7)
        case measure => have := HG.out; omega
        case rel => exact ⟨j7, _, rfl, I7⟩
    · have hle : s.size ≤ j := by omega
      have hRR : RR = (done, 0, 0) := by
        have := HR.out
        rw [I.lex, lex_done _ _ _ hle] at this
        simpa using this.symm
      have HRR := Lib.hid hRR; clear hRR
      have BEL := Lib.hid I.bel; have PL := Lib.hid I.pl; have OWN := Lib.hid I.own
      clear I hI
      go_wp2_with fail
      refine (more_no b s j _ hrd.out hle).mono ?_
      rintro e w4 ⟨rfl, h4⟩
      have P4 := Lib.hid (PL.out.keep (h4.1.block _ PL.out.lt (by simp; omega)))
      obtain ⟨y0, y1, y2, yf⟩ := P4.out.cells
      have f0 := yf 0; have f1 := yf 1; have f2 := yf 2
      clear yf
      have O4 := Lib.hid (OWN.out.kept h4.1 (.inr (by intro e; have := OWN.out.lt _ e; omega)))
      have B4 := Lib.hid (Below.grown BEL.out h4.1 (by have := PL.out.lt; have := hrd.out.lt; omega) (fun k hk => by cases hk; omega))
      clear h4
      go_wp2_with fail
      refine res_all rfl B _ _ _ rfl (((P4.out.set0 _).set1 _).set2 _) rfl ⟨u5, ?_, ?_, ?_⟩
      · rw [HRR.out]; rfl
      · rw [HRR.out]
        have hne : ∀ g, u5.ownBlock = some g → g ≠ B := fun g e => by have := (OWN.out.lt g e).1; omega
        have hk3 : ∀ a v x, a.block = B → World.ownsRow x (b + 1) 33 5 u5 done.length (toksC s done) → World.ownsRow (x.setCell a v) (b + 1) 33 5 u5 done.length (toksC s done) := fun a v x ha h => by
          refine h.kept (grown_set x a v) (.inr ?_)
          intro e
          exact hne _ e ha
        exact own_mono (hk3 _ _ _ rfl (hk3 _ _ _ rfl (hk3 _ _ _ rfl O4.out))) (by omega)
      · exact ((B4.out.setCell (Nat.le_refl _) _).setCell (Nat.le_refl _) _).setCell (Nat.le_refl _) _
/-- desc.All, of every text of at most 100000 bytes. -/
theorem all_any (s : ByteArray) (w : World) (hs : s.size ≤ 100000) :
    Calls Try.prog 9 #[.string s] w (AllPost s w.heap.size w (resR s)) := by
  by_cases h : 65536 < s.size
  · have := all_big s w hs h
    unfold resR; rw [if_pos h]; exact this
  · exact all_in s w (by omega)
end Go.Proofs.Ytaghoicmfpndbaa
