/- symMerge: what is asked of it and what the long way gives, the plain side. -/
import Derived.Test.YtmhfbgcfagfmbaaS2
namespace Go.Proofs.Ytmhfbgcfagfmbaa
open Go.Shelf Go.RowKit Go.Lib Go.Sort

/-- The row's [a, b) is put in order. -/
def MergePost (cf : F64 → F64 → Int) (blk off : Nat) (w0 : World) (a b : Nat) (d : Array F64) (e : Ending) (w' : World) : Prop :=
  e = .returned (.tuple #[]) ∧ ∃ d', PermIn a b d d' ∧ SortedIn (ltOf cf) a b d' ∧ SW encF w0 blk off d' w'
/-- symMerge does it, on stretches shorter than N. -/
def MergeOK (g : Nat) (cb : Array Value) (cf : F64 → F64 → Int) (blk off cap len : Nat) (w0 : World) (N : Nat) : Prop :=
  ∀ (a m b : Nat) (d : Array F64) (w : World), b - a < N → d.size = len → SW encF w0 blk off d w → a < m → m < b → b ≤ len → SortedIn (ltOf cf) a m d → SortedIn (ltOf cf) m b d →
    Calls Try.prog 83 #[.slice (some ⟨blk, off, none⟩) len cap, .int .i64 a, .int .i64 m, .int .i64 b, .func (.func g) #[] cb] w (MergePost cf blk off w0 a b d)

theorem rot_id {d : Array F64} {s m e : Nat} (h : s = m ∨ e = m) (hsm : s ≤ m) (hme : m ≤ e) (k : Nat) : d[k]! = rotF d s m e k := by
  unfold rotF
  (repeat' split) <;> first | rfl | omega | (congr 1; omega)

variable {lt : F64 → F64 → Bool}
theorem runs_right {d1 d2 : Array F64} {a mid b x y : Nat} (p : PermIn a mid d1 d2) (h : SortedIn lt x y d1) (hx : mid ≤ x) (_hb : y ≤ b) : SortedIn lt x y d2 := fun i j h1 h2 h3 => by
  rw [p.2.1 i (by omega), p.2.1 j (by omega)]
  exact h i j h1 h2 h3
theorem sorted_empty {d : Array F64} {a b : Nat} (h : b ≤ a) : SortedIn lt a b d := fun i j h1 h2 h3 => by omega

/-- All that is known behind the rotation, under one name. -/
structure Turned (lt : F64 → F64 → Bool) (a b mid s e : Nat) (d d1 : Array F64) : Prop where
  perm : PermIn a b d d1
  q1 : SortedIn lt a s d1
  q2 : SortedIn lt s mid d1
  q3 : SortedIn lt mid e d1
  q4 : SortedIn lt e b d1
  cross : ∀ i j, a ≤ i → i < mid → mid ≤ j → j < b → lt d1[j]! d1[i]! = false
theorem Turned.of {a m b mid s e : Nat} {d d1 : Array F64} (c : Cut lt d a m b mid s e) (hl : SortedIn lt a m d) (hr : SortedIn lt m b d) (p : PermIn a b d d1) (h : ∀ k, d1[k]! = rotF d s m e k) : Turned lt a b mid s e d d1 := by
  obtain ⟨q1, q2, q3, q4, x⟩ := cut_rot c hl hr h
  exact ⟨p, q1, q2, q3, q4, x⟩
theorem Turned.end {a b mid s e : Nat} {d d1 d2 d3 : Array F64} (t : Turned lt a b mid s e d d1) (ham : a ≤ mid) (hmb : mid ≤ b) (hb : b ≤ d.size) (p2 : PermIn a mid d1 d2) (s2 : SortedIn lt a mid d2) (p3 : PermIn mid b d2 d3) (s3 : SortedIn lt mid b d3) : PermIn a b d d3 ∧ SortedIn lt a b d3 := by
  obtain ⟨h1, h2⟩ := halves ham hmb (by rw [t.perm.1]; exact hb) t.cross p2 s2 p3 s3
  exact ⟨permIn_trans _ _ _ _ _ t.perm h1, h2⟩

end Go.Proofs.Ytmhfbgcfagfmbaa
