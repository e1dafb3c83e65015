/-
  Roots, proofs and what a proof shows, as plain functions on lists of bytes.
-/
import Derived.Test.YtfodibjlldmnpaaDoorSha
namespace Go.Proofs.YtfodibjlldmnpaaDoor
namespace Tre

def leaf (s : List UInt8) : List UInt8 := Sha.digest (0 :: s)
def node (a b : List UInt8) : List UInt8 := Sha.digest (1 :: (a ++ b))
theorem leaf_length (s : List UInt8) : (leaf s).length = 32 := Sha.digest_length _
theorem node_length (a b : List UInt8) : (node a b).length = 32 := Sha.digest_length _

/-- The greatest power of 2 below n, which is 2 or more. -/
def split (n : Nat) : Nat := 2 ^ Nat.log2 (n - 1)
theorem split_pos (n : Nat) : 0 < split n := Nat.two_pow_pos _
theorem split_lt {n : Nat} (h : 2 ≤ n) : split n < n := by
  have := Nat.log2_self_le (n := n - 1) (by omega)
  unfold split; omega

/-- The root of none or one. -/
def few : List (List UInt8) → List UInt8
  | [] => Sha.digest []
  | x :: _ => leaf x
theorem few_length (l : List (List UInt8)) : (few l).length = 32 := by
  cases l
  · exact Sha.digest_length _
  · exact leaf_length _
def root (l : List (List UInt8)) : List UInt8 :=
  if l.length ≤ 1 then few l
  else node (root (l.take (split l.length))) (root (l.drop (split l.length)))
termination_by l.length
decreasing_by
  · have := split_lt (n := l.length) (by omega)
    simp; omega
  · have := split_pos l.length
    simp; omega
theorem root_nil : root [] = Sha.digest [] := by rw [root]; rfl
theorem root_one (x : List UInt8) : root [x] = leaf x := by rw [root]; rfl
theorem root_cut {l : List (List UInt8)} (h : 2 ≤ l.length) : root l = node (root (l.take (split l.length))) (root (l.drop (split l.length))) := by
  rw [root, if_neg (by omega)]
theorem root_length (l : List (List UInt8)) : (root l).length = 32 := by
  rw [root]
  split
  · exact few_length _
  · exact node_length _ _

def proofOf (l : List (List UInt8)) (i : Nat) : List (List UInt8) :=
  if l.length ≤ 1 then []
  else if i < split l.length then proofOf (l.take (split l.length)) i ++ [root (l.drop (split l.length))]
  else proofOf (l.drop (split l.length)) (i - split l.length) ++ [root (l.take (split l.length))]
termination_by l.length
decreasing_by
  · have := split_lt (n := l.length) (by omega)
    simp; omega
  · have := split_pos l.length
    simp; omega

def depth (i n : Nat) : Nat :=
  if n ≤ 1 then 0
  else if i < split n then depth i (split n) + 1
  else depth (i - split n) (n - split n) + 1
termination_by n
decreasing_by
  · exact split_lt (by omega)
  · have := split_pos n
    omega

def climb (s : List UInt8) (i n : Nat) (p : List (List UInt8)) : List UInt8 :=
  if n ≤ 1 then leaf s
  else if i < split n then node (climb s i (split n) (p.take (p.length - 1))) (p.getD (p.length - 1) [])
  else node (p.getD (p.length - 1) []) (climb s (i - split n) (n - split n) (p.take (p.length - 1)))
termination_by n
decreasing_by
  · exact split_lt (by omega)
  · have := split_pos n
    omega
theorem climb_length (s : List UInt8) (i n : Nat) (p : List (List UInt8)) : (climb s i n p).length = 32 := by
  rw [climb]
  split
  · exact leaf_length _
  · split <;> exact node_length _ _

theorem proof_rows (m : Nat) : ∀ (l : List (List UInt8)) (i : Nat), l.length ≤ m → ∀ d ∈ proofOf l i, d.length = 32 := by
  induction m with
  | zero => intro l i hm d hd; rw [proofOf, if_pos (by omega)] at hd; cases hd
  | succ m ih =>
    intro l i hm d hd
    rw [proofOf] at hd
    split at hd
    · cases hd
    · have h1 := split_pos l.length
      have h2 := split_lt (n := l.length) (by omega)
      split at hd
      · rcases List.mem_append.1 hd with h | h
        · exact ih (l.take _) _ (by simp; omega) d h
        · simp at h; subst h; exact root_length _
      · rcases List.mem_append.1 hd with h | h
        · exact ih (l.drop _) _ (by simp; omega) d h
        · simp at h; subst h; exact root_length _

theorem proof_length (m : Nat) : ∀ (l : List (List UInt8)) (i : Nat), l.length ≤ m → i < l.length → (proofOf l i).length = depth i l.length := by
  induction m with
  | zero => intro l i h1 h2; omega
  | succ m ih =>
    intro l i hm hi
    rw [proofOf, depth]
    split
    · rfl
    · have h1 := split_pos l.length
      have h2 := split_lt (n := l.length) (by omega)
      split
      · rw [List.length_append, ih _ _ (by simp; omega) (by simp; omega), List.length_take, Nat.min_eq_left (by omega)]; rfl
      · rw [List.length_append, ih _ _ (by simp; omega) (by simp; omega), List.length_drop]; rfl

theorem climb_proof (m : Nat) : ∀ (l : List (List UInt8)) (i : Nat), l.length ≤ m → i < l.length → climb (l.getD i []) i l.length (proofOf l i) = root l := by
  induction m with
  | zero => intro l i h1 h2; omega
  | succ m ih =>
    intro l i hm hi
    rw [climb, root, proofOf]
    split
    · rename_i hsh
      cases l with
      | nil => simp at hi
      | cons x r =>
        have h0 : i = 0 := by simp only [List.length_cons] at hi hsh; omega
        subst h0; rfl
    · have h1 := split_pos l.length
      have h2 := split_lt (n := l.length) (by omega)
      split
      · rename_i hk
        have := ih (l.take (split l.length)) i (by simp; omega) (by simp; omega)
        rw [List.length_take, Nat.min_eq_left (by omega)] at this
        rw [← this]
        simp [List.getD_eq_getElem?_getD, hk]
      · rename_i hk
        have := ih (l.drop (split l.length)) (i - split l.length) (by simp; omega) (by simp; omega)
        rw [List.length_drop] at this
        rw [← this]
        simp [List.getD_eq_getElem?_getD, List.getElem?_drop, show split l.length + (i - split l.length) = i by omega]
end Tre
end Go.Proofs.YtfodibjlldmnpaaDoor
