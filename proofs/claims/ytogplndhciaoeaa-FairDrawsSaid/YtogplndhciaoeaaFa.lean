/- layer 33 (fair), plain: entries, steps, gaps. -/
namespace Go.Proofs.Ytogplndhciaoeaa
/-- an entry: its kind, its three numbers, its draw. -/
structure En where
  k : Int
  a : Int
  b : Int
  c : Int
  d : Int
/-- is it a step of the worker? -/
def isS (cpu : Int) (e : En) : Bool := decide (e.k = 1) && decide (e.a = cpu)
/-- how many stand ahead of the first step, between each two, behind the last one; g ahead of all. -/
def gapsF (cpu : Int) : List En → Nat → List Nat
  | [], g => [g]
  | e :: r, g => if isS cpu e then g :: gapsF cpu r 0 else gapsF cpu r (g + 1)
theorem gapsF_cons (cpu : Int) (e : En) (r : List En) (g : Nat) : gapsF cpu (e :: r) g = if isS cpu e then g :: gapsF cpu r 0 else gapsF cpu r (g + 1) := rfl
theorem gapsF_ne (cpu : Int) : ∀ (l : List En) (g : Nat), gapsF cpu l g ≠ []
  | [], g => by simp [gapsF]
  | e :: r, g => by unfold gapsF; split; simp; exact gapsF_ne cpu r (g + 1)
theorem gapsF_len (cpu : Int) : ∀ (l : List En) (g : Nat), (gapsF cpu l g).length ≤ l.length + 1
  | [], g => by simp [gapsF]
  | e :: r, g => by
    unfold gapsF; split
    · have := gapsF_len cpu r 0; simp only [List.length_cons]; omega
    · have := gapsF_len cpu r (g + 1); simp only [List.length_cons]; omega
theorem gapsF_le (cpu : Int) : ∀ (l : List En) (g : Nat), ∀ x ∈ gapsF cpu l g, x ≤ g + l.length
  | [], g, x, h => by simp [gapsF] at h; simp; omega
  | e :: r, g, x, h => by
    unfold gapsF at h; split at h
    · rcases List.mem_cons.1 h with rfl | h
      · omega
      · have := gapsF_le cpu r 0 x h; simp only [List.length_cons]; omega
    · have := gapsF_le cpu r (g + 1) x h; simp only [List.length_cons]; omega
/-- the greatest. -/
def mostL (l : List Nat) : Nat := l.foldl max 0
theorem mostL_snoc (l : List Nat) (x : Nat) : mostL (l ++ [x]) = max (mostL l) x := by unfold mostL; rw [List.foldl_append]; rfl
theorem foldl_max_le : ∀ (l : List Nat) (m n : Nat), m ≤ n → (∀ x ∈ l, x ≤ n) → l.foldl max m ≤ n
  | [], m, n, h, _ => h
  | x :: r, m, n, h, hx => foldl_max_le r (max m x) n (Nat.max_le.2 ⟨h, hx x (by simp)⟩) fun y hy => hx y (by simp [hy])
theorem mostL_le {l : List Nat} {n : Nat} (h : ∀ x ∈ l, x ≤ n) : mostL l ≤ n := foldl_max_le l 0 n (Nat.zero_le _) h
/-- the most entries, one behind the other, without a step of the worker. -/
def gapL (l : List En) (cpu : Int) : Nat := mostL (gapsF cpu l 0)
theorem gapL_le (l : List En) (cpu : Int) : gapL l cpu ≤ l.length := mostL_le fun x hx => by have := gapsF_le cpu l 0 x hx; omega
/-- the greatest gap of the workers. -/
def gapM (l : List En) (cpus : List Int) : Nat := mostL (cpus.map (gapL l))
theorem gapM_le (l : List En) (cpus : List Int) : gapM l cpus ≤ l.length := mostL_le fun x hx => by
  obtain ⟨c, _, rfl⟩ := List.mem_map.1 hx
  exact gapL_le l c
theorem gapM_snoc (l : List En) (cpus : List Int) (c : Int) : gapM l (cpus ++ [c]) = max (gapM l cpus) (gapL l c) := by unfold gapM; rw [List.map_append]; exact mostL_snoc _ _
/-- as the document reckons a gap: n so far, m the most. -/
def runG (cpu : Int) : List En → Nat → Nat → Nat
  | [], _, m => m
  | e :: r, n, m => if isS cpu e then runG cpu r 0 (max m 0) else runG cpu r (n + 1) (max m (n + 1))
theorem runG_gaps (cpu : Int) : ∀ (l : List En) (g m : Nat), (gapsF cpu l g).foldl max m = runG cpu l g (max m g)
  | [], g, m => by simp [gapsF, runG]
  | e :: r, g, m => by
    unfold gapsF runG
    by_cases h : isS cpu e = true
    · rw [if_pos h, if_pos h, List.foldl_cons, runG_gaps cpu r 0 (max m g)]
    · rw [if_neg h, if_neg h, runG_gaps cpu r (g + 1) m]
      congr 1; omega
theorem runG_eq (l : List En) (cpu : Int) : runG cpu l 0 0 = gapL l cpu := by unfold gapL mostL; rw [runG_gaps]; rfl
end Go.Proofs.Ytogplndhciaoeaa
