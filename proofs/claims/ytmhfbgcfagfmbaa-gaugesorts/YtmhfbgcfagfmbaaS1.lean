/- The stable merging sort of slices (blocks, symMerge, rotate, swapRange), the plain side: no program in this text. -/
import Derived.Sort.LotA
namespace Go.Proofs.Ytmhfbgcfagfmbaa
open Go.Sort
variable {α : Type} [Inhabited α]

/-! ### swapRange -/
/-- The row behind n exchanges of [a, a+n) with [b, b+n), by place. -/
def swF (d : Array α) (a b n k : Nat) : α := if a ≤ k ∧ k < a + n then d[k - a + b]! else if b ≤ k ∧ k < b + n then d[k - b + a]! else d[k]!
structure SwapR (lo hi : Nat) (d : Array α) (a b n : Nat) (d' : Array α) : Prop where
  perm : PermIn lo hi d d'
  at' : ∀ k, d'[k]! = swF d a b n k

theorem SwapR.zero (lo hi : Nat) (d : Array α) (a b : Nat) : SwapR lo hi d a b 0 d :=
  ⟨permIn_refl _ _ _, fun k => by unfold swF; rw [if_neg (by omega), if_neg (by omega)]⟩

theorem SwapR.succ {lo hi : Nat} {d d' : Array α} {a b n : Nat} (h : SwapR lo hi d a b n d') (hab : a + n < b) (hlo : lo ≤ a) (hb : b + n < hi) (hs : hi ≤ d.size) : SwapR lo hi d a b (n + 1) (swp d' (a + n) (b + n)) := by
  have hsz := h.perm.1
  refine ⟨permIn_trans _ _ _ _ _ h.perm (swp_permIn d' lo hi _ _ (by omega) (by omega) (by omega) (by omega) (by omega)), fun k => ?_⟩
  rw [swp_get d' (by omega) (by omega)]
  simp only [h.at']
  unfold swF
  (repeat' split) <;> first | omega | (congr 1; omega) | rfl

/-! ### rotate -/
/-- The row with [a, m) and [m, b) exchanged, by place. -/
def rotF (d : Array α) (a m b k : Nat) : α := if k < a then d[k]! else if k < a + (b - m) then d[k + (m - a)]! else if k < b then d[k - (b - m)]! else d[k]!
structure RotR (lo hi : Nat) (d : Array α) (a m b : Nat) (d' : Array α) : Prop where
  perm : PermIn lo hi d d'
  at' : ∀ k, d'[k]! = rotF d a m b k

/-- A round of the loop: the left part is the longer one. -/
theorem rot_left {lo hi : Nat} {d d' : Array α} {i j m : Nat} (hij : j < i) (him : i ≤ m) (h : SwapR lo hi d (m - i) m j d') (k : Nat) :
    rotF d' (m - (i - j)) m (m + j) k = rotF d (m - i) m (m + j) k := by
  unfold rotF
  simp only [h.at']
  unfold swF
  (repeat' split) <;> first | omega | (congr 1; omega) | rfl
/-- The right part is the longer one. -/
theorem rot_right {lo hi : Nat} {d d' : Array α} {i j m : Nat} (hij : i < j) (him : i ≤ m) (h : SwapR lo hi d (m - i) (m + j - i) i d') (k : Nat) :
    rotF d' (m - i) m (m + (j - i)) k = rotF d (m - i) m (m + j) k := by
  unfold rotF
  simp only [h.at']
  unfold swF
  (repeat' split) <;> first | omega | (congr 1; omega) | rfl
/-- Both are as long. -/
theorem rot_end {lo hi : Nat} {d d' : Array α} {i m : Nat} (him : i ≤ m) (h : SwapR lo hi d (m - i) m i d') (k : Nat) :
    d'[k]! = rotF d (m - i) m (m + i) k := by
  rw [h.at']
  unfold rotF swF
  (repeat' split) <;> first | omega | (congr 1; omega) | rfl

/-! ### symMerge: the step -/
variable {lt : α → α → Bool}

theorem SortedIn.le (hS : SWO lt) {a b : Nat} {d : Array α} (h : SortedIn lt a b d) {i j : Nat} (hi : a ≤ i) (hij : i ≤ j) (hj : j < b) : lt d[j]! d[i]! = false := by
  by_cases e : i = j
  · subst e; exact hS.irrefl _
  · exact h i j hi (by omega) hj

/-- What the search gives: s lies where the two runs are to be cut. -/
structure Cut (lt : α → α → Bool) (d : Array α) (a m b mid s e : Nat) : Prop where
  sum : e + s = mid + m
  as : a ≤ s
  sm : s ≤ m
  me : m ≤ e
  eb : e ≤ b
  am : a ≤ mid
  mb : mid ≤ b
  lo : ∀ i j, a ≤ i → i < s → e ≤ j → j < b → lt d[j]! d[i]! = false
  hi : ∀ i j, s ≤ i → i < m → m ≤ j → j < e → lt d[i]! d[j]! = false

/-- Behind the rotation: both halves are two runs each, and nothing of the right one is less than anything of the left one. -/
theorem cut_rot {d d1 : Array α} {a m b mid s e : Nat} (c : Cut lt d a m b mid s e) (hl : SortedIn lt a m d) (hr : SortedIn lt m b d) (h : ∀ k, d1[k]! = rotF d s m e k) :
    SortedIn lt a s d1 ∧ SortedIn lt s mid d1 ∧ SortedIn lt mid e d1 ∧ SortedIn lt e b d1 ∧ (∀ i j, a ≤ i → i < mid → mid ≤ j → j < b → lt d1[j]! d1[i]! = false) := by
  obtain ⟨sum, as, sm, me, eb, am, mb, clo, chi⟩ := c
  have e1 : ∀ k, k < s → d1[k]! = d[k]! := fun k hk => by rw [h]; unfold rotF; rw [if_pos hk]
  have e2 : ∀ k, s ≤ k → k < mid → d1[k]! = d[k + (m - s)]! := fun k h1 h2 => by rw [h]; unfold rotF; rw [if_neg (by omega), if_pos (by omega)]
  have e3 : ∀ k, mid ≤ k → k < e → d1[k]! = d[k - (e - m)]! := fun k h1 h2 => by rw [h]; unfold rotF; rw [if_neg (by omega), if_neg (by omega), if_pos (by omega)]
  have e4 : ∀ k, e ≤ k → d1[k]! = d[k]! := fun k h1 => by rw [h]; unfold rotF; rw [if_neg (by omega), if_neg (by omega), if_neg (by omega)]
  refine ⟨?_, ?_, ?_, ?_, ?_⟩
  · intro i j hi hij hj
    rw [e1 i (by omega), e1 j hj]
    exact hl i j hi hij (by omega)
  · intro i j hi hij hj
    rw [e2 i hi (by omega), e2 j (by omega) hj]
    exact hr _ _ (by omega) (by omega) (by omega)
  · intro i j hi hij hj
    rw [e3 i hi (by omega), e3 j (by omega) hj]
    exact hl _ _ (by omega) (by omega) (by omega)
  · intro i j hi hij hj
    rw [e4 i hi, e4 j (by omega)]
    exact hr i j (by omega) hij hj
  · intro i j hi him hj hjb
    by_cases h1 : i < s
    · rw [e1 i h1]
      by_cases h2 : j < e
      · rw [e3 j hj h2]
        exact hl i _ hi (by omega) (by omega)
      · rw [e4 j (by omega)]
        exact clo i j hi h1 (by omega) hjb
    · rw [e2 i (by omega) him]
      by_cases h2 : j < e
      · rw [e3 j hj h2]
        exact chi _ _ (by omega) (by omega) (by omega) (by omega)
      · rw [e4 j (by omega)]
        exact hr _ j (by omega) (by omega) hjb

/-- Two halves put in order. -/
theorem halves {d1 d2 d3 : Array α} {a mid b : Nat} (ham : a ≤ mid) (hmb : mid ≤ b) (hb : b ≤ d1.size) (hx : ∀ i j, a ≤ i → i < mid → mid ≤ j → j < b → lt d1[j]! d1[i]! = false)
    (p2 : PermIn a mid d1 d2) (s2 : SortedIn lt a mid d2) (p3 : PermIn mid b d2 d3) (s3 : SortedIn lt mid b d3) : PermIn a b d1 d3 ∧ SortedIn lt a b d3 := by
  have z2 := p2.1
  refine ⟨permIn_trans _ _ _ _ _ (permIn_mono _ _ _ _ _ _ (Nat.le_refl _) hmb hb p2) (permIn_mono _ _ _ _ _ _ ham (Nat.le_refl _) (by omega) p3), ?_⟩
  have x2 : ∀ i j, a ≤ i → i < mid → mid ≤ j → j < b → lt d2[j]! d2[i]! = false := fun i j h1 h2 h3 h4 => by
    rw [p2.2.1 j (by omega)]
    exact permIn_all d1 d2 a mid (fun x => lt d1[j]! x = false) (by omega) p2 (fun i' h1' h2' => hx i' j h1' h2' h3 h4) i h1 h2
  have x3 : ∀ i j, a ≤ i → i < mid → mid ≤ j → j < b → lt d3[j]! d3[i]! = false := fun i j h1 h2 h3 h4 => by
    rw [p3.2.1 i (by omega)]
    exact permIn_all d2 d3 mid b (fun x => lt x d2[i]! = false) (by omega) p3 (fun j' h3' h4' => x2 i j' h1 h2 h3' h4') j h3 h4
  intro i j h1 h2 h3
  by_cases hj : j < mid
  · rw [p3.2.1 i (by omega), p3.2.1 j (by omega)]
    exact s2 i j h1 h2 hj
  · by_cases hi : i < mid
    · exact x3 i j h1 hi (by omega) h3
    · exact s3 i j (by omega) h2 h3

/-- The search's invariant in symMerge: left of s the left one is not greater, right of r it is. -/
structure Look (lt : α → α → Bool) (d : Array α) (p lo hi s r : Nat) : Prop where
  ls : lo ≤ s
  sr : s ≤ r
  rh : r ≤ hi
  left : ∀ c, lo ≤ c → c < s → lt d[p - c]! d[c]! = false
  right : ∀ c, r ≤ c → c < hi → lt d[p - c]! d[c]! = true

theorem Look.start (lt : α → α → Bool) (d : Array α) (p : Nat) {lo hi : Nat} (h : lo ≤ hi) : Look lt d p lo hi lo hi := ⟨Nat.le_refl _, h, Nat.le_refl _, fun _ _ _ => by omega, fun _ _ _ => by omega⟩

/-- Where the search looks: [lo, hi) in the left run, its mirror image in the right one. -/
structure Span (a m b mid lo hi : Nat) : Prop where
  am : a < m
  mb : m < b
  mid2 : mid = (a + b) / 2
  at' : (mid < m ∧ lo = mid + m - b ∧ hi = mid) ∨ (m ≤ mid ∧ lo = a ∧ hi = m)

theorem Look.up (hS : SWO lt) {d : Array α} {a m b mid lo hi s r c : Nat} (S : Span a m b mid lo hi) (hl : SortedIn lt a m d) (hr : SortedIn lt m b d) (L : Look lt d (mid + m - 1) lo hi s r) (hc1 : s ≤ c) (hc2 : c < r)
    (h : lt d[mid + m - 1 - c]! d[c]! = false) : Look lt d (mid + m - 1) lo hi (c + 1) r := by
  obtain ⟨am, mb, mid2, at'⟩ := S
  obtain ⟨ls, sr, rh, left, right⟩ := L
  refine ⟨by omega, by omega, rh, fun c' h1 h2 => ?_, right⟩
  have h3 : lt d[mid + m - 1 - c']! d[mid + m - 1 - c]! = false := SortedIn.le hS hr (by omega) (by omega) (by omega)
  have h4 : lt d[c]! d[c']! = false := SortedIn.le hS hl (by omega) (by omega) (by omega)
  exact hS.ntrans _ _ _ (hS.ntrans _ _ _ h3 h) h4

theorem Look.down (hS : SWO lt) {d : Array α} {a m b mid lo hi s r c : Nat} (S : Span a m b mid lo hi) (hl : SortedIn lt a m d) (hr : SortedIn lt m b d) (L : Look lt d (mid + m - 1) lo hi s r) (hc1 : s ≤ c) (hc2 : c < r)
    (h : lt d[mid + m - 1 - c]! d[c]! = true) : Look lt d (mid + m - 1) lo hi s c := by
  obtain ⟨am, mb, mid2, at'⟩ := S
  obtain ⟨ls, sr, rh, left, right⟩ := L
  refine ⟨ls, by omega, by omega, left, fun c' h1 h2 => ?_⟩
  have h3 : lt d[mid + m - 1 - c]! d[mid + m - 1 - c']! = false := SortedIn.le hS hr (by omega) (by omega) (by omega)
  have h4 : lt d[c']! d[c]! = false := SortedIn.le hS hl (by omega) (by omega) (by omega)
  cases e : lt d[mid + m - 1 - c']! d[c']! with
  | true => rfl
  | false =>
    have := hS.ntrans _ _ _ (hS.ntrans _ _ _ h3 e) h4
    rw [h] at this; cases this

theorem Look.cut (hS : SWO lt) {d : Array α} {a m b mid lo hi s : Nat} (S : Span a m b mid lo hi) (hl : SortedIn lt a m d) (hr : SortedIn lt m b d) (L : Look lt d (mid + m - 1) lo hi s s) : Cut lt d a m b mid s (mid + m - s) := by
  obtain ⟨am, mb, mid2, at'⟩ := S
  obtain ⟨ls, sr, rh, left, right⟩ := L
  refine ⟨by omega, by omega, by omega, by omega, by omega, by omega, by omega, ?_, ?_⟩
  · intro i j h1 h2 h3 h4
    by_cases e : lo < s
    · have h5 := left (s - 1) (by omega) (by omega)
      rw [show mid + m - 1 - (s - 1) = mid + m - s by omega] at h5
      have h6 : lt d[s - 1]! d[i]! = false := SortedIn.le hS hl h1 (by omega) (by omega)
      have h7 : lt d[j]! d[mid + m - s]! = false := SortedIn.le hS hr (by omega) h3 h4
      exact hS.ntrans _ _ _ (hS.ntrans _ _ _ h7 h5) h6
    · omega
  · intro i j h1 h2 h3 h4
    by_cases e : s < hi
    · have h5 := hS.asymmA (right s (by omega) e)
      have h6 : lt d[i]! d[s]! = false := SortedIn.le hS hl (by omega) h1 h2
      have h7 : lt d[mid + m - 1 - s]! d[j]! = false := SortedIn.le hS hr h3 (by omega) (by omega)
      exact hS.ntrans _ _ _ (hS.ntrans _ _ _ h6 h5) h7
    · omega

/-! ### symMerge: one against many -/
/-- Up to i less than x, from j on not. -/
structure Find (lt : α → α → Bool) (d : Array α) (x : α) (lo hi i j : Nat) : Prop where
  li : lo ≤ i
  ij : i ≤ j
  jh : j ≤ hi
  left : ∀ c, lo ≤ c → c < i → lt d[c]! x = true
  right : ∀ c, j ≤ c → c < hi → lt d[c]! x = false
theorem Find.start (lt : α → α → Bool) (d : Array α) (x : α) {lo hi : Nat} (h : lo ≤ hi) : Find lt d x lo hi lo hi := ⟨Nat.le_refl _, h, Nat.le_refl _, fun _ _ _ => by omega, fun _ _ _ => by omega⟩
theorem Find.up (hS : SWO lt) {d : Array α} {x : α} {lo hi i j h : Nat} (hr : SortedIn lt lo hi d) (F : Find lt d x lo hi i j) (h1 : i ≤ h) (h2 : h < j) (hc : lt d[h]! x = true) : Find lt d x lo hi (h + 1) j := by
  obtain ⟨li, ij, jh, left, right⟩ := F
  refine ⟨by omega, by omega, jh, fun c c1 c2 => ?_, right⟩
  cases e : lt d[c]! x with
  | true => rfl
  | false =>
    have := hS.ntrans _ _ _ (SortedIn.le hS hr c1 (by omega : c ≤ h) (by omega)) e
    rw [hc] at this; cases this
theorem Find.down (hS : SWO lt) {d : Array α} {x : α} {lo hi i j h : Nat} (hr : SortedIn lt lo hi d) (F : Find lt d x lo hi i j) (h1 : i ≤ h) (h2 : h < j) (hc : lt d[h]! x = false) : Find lt d x lo hi i h := by
  obtain ⟨li, ij, jh, left, right⟩ := F
  exact ⟨li, by omega, by omega, left, fun c c1 c2 => hS.ntrans _ _ _ (SortedIn.le hS hr (by omega) c1 c2) hc⟩

/-- The row with place a carried up to place k, those between one down. -/
def upF (d : Array α) (a k x : Nat) : α := if a ≤ x ∧ x < k then d[x + 1]! else if x = k then d[a]! else d[x]!
structure UpR (lo hi : Nat) (d : Array α) (a k : Nat) (d' : Array α) : Prop where
  perm : PermIn lo hi d d'
  at' : ∀ x, d'[x]! = upF d a k x
theorem UpR.zero (lo hi : Nat) (d : Array α) (a : Nat) : UpR lo hi d a a d := ⟨permIn_refl _ _ _, fun x => by
  unfold upF; rw [if_neg (by omega)]; split
  · subst_vars; rfl
  · rfl⟩
theorem UpR.succ {lo hi : Nat} {d d' : Array α} {a k : Nat} (h : UpR lo hi d a k d') (hlo : lo ≤ a) (hak : a ≤ k) (hk : k + 1 < hi) (hs : hi ≤ d.size) : UpR lo hi d a (k + 1) (swp d' k (k + 1)) := by
  have hsz := h.perm.1
  refine ⟨permIn_trans _ _ _ _ _ h.perm (swp_permIn d' lo hi _ _ (by omega) (by omega) (by omega) (by omega) (by omega)), fun x => ?_⟩
  rw [swp_get d' (by omega) (by omega)]
  simp only [h.at']
  unfold upF
  (repeat' split) <;> first | omega | (congr 1; omega) | rfl

theorem up_sorted (hS : SWO lt) {d d' : Array α} {a b i : Nat} (hr : SortedIn lt (a + 1) b d) (F : Find lt d d[a]! (a + 1) b i i) (h : UpR a b d a (i - 1) d') : SortedIn lt a b d' := by
  obtain ⟨li, ij, jh, left, right⟩ := F
  intro x y h1 h2 h3
  rw [h.at', h.at']
  unfold upF
  by_cases hy : a ≤ y ∧ y < i - 1
  · rw [if_pos hy, if_pos (by omega)]
    exact hr _ _ (by omega) (by omega) (by omega)
  · rw [if_neg hy]
    by_cases hy2 : y = i - 1
    · rw [if_pos hy2, if_pos (by omega)]
      exact hS.asymmA (left _ (by omega) (by omega))
    · rw [if_neg hy2]
      by_cases hx : a ≤ x ∧ x < i - 1
      · rw [if_pos hx]
        exact hr _ _ (by omega) (by omega) (by omega)
      · rw [if_neg hx]
        by_cases hx2 : x = i - 1
        · rw [if_pos hx2]
          exact right _ (by omega) (by omega)
        · rw [if_neg hx2]
          exact hr _ _ (by omega) (by omega) (by omega)

/-- Up to i not greater than x, from j on greater. -/
structure Find2 (lt : α → α → Bool) (d : Array α) (x : α) (lo hi i j : Nat) : Prop where
  li : lo ≤ i
  ij : i ≤ j
  jh : j ≤ hi
  left : ∀ c, lo ≤ c → c < i → lt x d[c]! = false
  right : ∀ c, j ≤ c → c < hi → lt x d[c]! = true
theorem Find2.start (lt : α → α → Bool) (d : Array α) (x : α) {lo hi : Nat} (h : lo ≤ hi) : Find2 lt d x lo hi lo hi := ⟨Nat.le_refl _, h, Nat.le_refl _, fun _ _ _ => by omega, fun _ _ _ => by omega⟩
theorem Find2.up (hS : SWO lt) {d : Array α} {x : α} {lo hi i j h : Nat} (hr : SortedIn lt lo hi d) (F : Find2 lt d x lo hi i j) (h1 : i ≤ h) (h2 : h < j) (hc : lt x d[h]! = false) : Find2 lt d x lo hi (h + 1) j := by
  obtain ⟨li, ij, jh, left, right⟩ := F
  exact ⟨by omega, by omega, jh, fun c c1 c2 => hS.ntrans _ _ _ hc (SortedIn.le hS hr c1 (by omega) (by omega)), right⟩
theorem Find2.down (hS : SWO lt) {d : Array α} {x : α} {lo hi i j h : Nat} (hr : SortedIn lt lo hi d) (F : Find2 lt d x lo hi i j) (h1 : i ≤ h) (h2 : h < j) (hc : lt x d[h]! = true) : Find2 lt d x lo hi i h := by
  obtain ⟨li, ij, jh, left, right⟩ := F
  refine ⟨li, by omega, by omega, left, fun c c1 c2 => ?_⟩
  cases e : lt x d[c]! with
  | true => rfl
  | false =>
    have := hS.ntrans _ _ _ e (SortedIn.le hS hr (by omega : lo ≤ h) c1 c2)
    rw [hc] at this; cases this

/-- The row with place m carried down to place k, those between one up. -/
def dnF (d : Array α) (m k x : Nat) : α := if k < x ∧ x ≤ m then d[x - 1]! else if x = k then d[m]! else d[x]!
structure DnR (lo hi : Nat) (d : Array α) (m k : Nat) (d' : Array α) : Prop where
  perm : PermIn lo hi d d'
  at' : ∀ x, d'[x]! = dnF d m k x
theorem DnR.zero (lo hi : Nat) (d : Array α) (m : Nat) : DnR lo hi d m m d := ⟨permIn_refl _ _ _, fun x => by
  unfold dnF; rw [if_neg (by omega)]; split
  · subst_vars; rfl
  · rfl⟩
theorem DnR.succ {lo hi : Nat} {d d' : Array α} {m k : Nat} (h : DnR lo hi d m (k + 1) d') (hlo : lo ≤ k) (hk : k + 1 ≤ m) (hm : m < hi) (hs : hi ≤ d.size) : DnR lo hi d m k (swp d' (k + 1) k) := by
  have hsz := h.perm.1
  refine ⟨permIn_trans _ _ _ _ _ h.perm (swp_permIn d' lo hi _ _ (by omega) (by omega) (by omega) (by omega) (by omega)), fun x => ?_⟩
  rw [swp_get d' (by omega) (by omega)]
  simp only [h.at']
  unfold dnF
  (repeat' split) <;> first | omega | (congr 1; omega) | rfl

theorem dn_sorted (hS : SWO lt) {d d' : Array α} {a m i : Nat} (hl : SortedIn lt a m d) (F : Find2 lt d d[m]! a m i i) (h : DnR a (m + 1) d m i d') : SortedIn lt a (m + 1) d' := by
  obtain ⟨li, ij, jh, left, right⟩ := F
  intro x y h1 h2 h3
  rw [h.at', h.at']
  unfold dnF
  by_cases hy : i < y ∧ y ≤ m
  · rw [if_pos hy]
    by_cases hx : i < x ∧ x ≤ m
    · rw [if_pos hx]; exact hl _ _ (by omega) (by omega) (by omega)
    · rw [if_neg hx]
      by_cases hx2 : x = i
      · rw [if_pos hx2]; exact hS.asymmA (right _ (by omega) (by omega))
      · rw [if_neg hx2]; exact hl _ _ (by omega) (by omega) (by omega)
  · rw [if_neg hy, if_neg (by omega : ¬ (i < x ∧ x ≤ m)), if_neg (by omega : ¬ x = i)]
    by_cases hy2 : y = i
    · rw [if_pos hy2]; exact left _ (by omega) (by omega)
    · rw [if_neg hy2]; exact hl _ _ (by omega) (by omega) (by omega)

end Go.Proofs.Ytmhfbgcfagfmbaa
