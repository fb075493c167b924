/- Contracts: gauge.Mean and the reference's Mean. -/
import Derived.Test.YtmhfbgcfagfmbaaFE
namespace Go.Proofs.Ytmhfbgcfagfmbaa
open Go.RowKit

/-- A slice of float64 with the elements zs. -/
def Flts (w : World) (a : Option Addr) (len : Nat) (zs : List Nat) : Prop :=
  zs.length = len ∧ (∀ z ∈ zs, Fit z) ∧ (len = 0 ∨ ∃ b off, a = some ⟨b, off, none⟩ ∧ ∀ j, j < len → w.cell? ⟨b, off + j, none⟩ = some (.float .f64 (zs.getD j 0)))
theorem Flts.later {w w2 : World} {a : Option Addr} {len : Nat} {zs : List Nat} (h : Flts w a len zs) (B : Below w.heap.size w w2) : Flts w2 a len zs := by
  refine ⟨h.1, h.2.1, ?_⟩
  rcases h.2.2 with h | ⟨b, off, rfl, hc⟩
  · exact .inl h
  · exact .inr ⟨b, off, rfl, fun j hj => (B.cell (World.block_lt_of_cell? w _ (hc j hj))).trans (hc j hj)⟩

/-- The numbers among them. -/
def good (l : List Nat) : List Nat := l.filter fun x => !nanB x
/-- s is what adding the elements one by one to s0 may give. -/
def FSF (s0 : Nat) : List Nat → Nat → Prop
  | [], s => s = s0
  | x :: r, s => ∃ t, Fit t ∧ AR .add s0 x t ∧ FSF t r s
theorem FSF.snoc {l : List Nat} {x s t : Nat} : ∀ {s0 : Nat}, FSF s0 l s → Fit t → AR .add s x t → FSF s0 (l ++ [x]) t := by
  induction l with
  | nil => intro s0 h ht a; cases h; exact ⟨t, ht, a, rfl⟩
  | cons y r ih => intro s0 h ht a; obtain ⟨u, hu, au, h⟩ := h; exact ⟨u, hu, au, ih h ht a⟩
theorem FSF.fit {l : List Nat} {s : Nat} : ∀ {s0 : Nat}, Fit s0 → FSF s0 l s → Fit s := by
  induction l with
  | nil => intro s0 h0 h; cases h; exact h0
  | cons y r ih => intro s0 _ h; obtain ⟨u, hu, _, h⟩ := h; exact ih hu h
theorem FSF.alik {l : List Nat} {s s' : Nat} : ∀ {s0 s0' : Nat}, Fit s0 → Fit s0' → Alik s0 s0' → FSF s0 l s → FSF s0' l s' → Alik s s' := by
  induction l with
  | nil => intro s0 s0' _ _ h h1 h2; cases h1; cases h2; exact h
  | cons y r ih =>
    intro s0 s0' f f' h h1 h2
    obtain ⟨u, hu, au, h1⟩ := h1
    obtain ⟨v, hv, av, h2⟩ := h2
    exact ih hu hv (AR.alik_l f f' h au av) h1 h2

/-- What the mean of these numbers may be. -/
def MeanIs (g : List Nat) (b : Nat) : Prop := (g = [] ∧ NaN b) ∨ (g ≠ [] ∧ ∃ s, Fit s ∧ FSF 0 g s ∧ AR .quo s (floatOfInt .f64 (g.length : Int)) b)
theorem MeanIs.alik {g : List Nat} {b c : Nat} (h : MeanIs g b) (k : MeanIs g c) : Alik b c := by
  rcases h with ⟨e, n⟩ | ⟨e, s, fs, h, a⟩ <;> rcases k with ⟨e', m⟩ | ⟨e', s', fs', h', a'⟩
  · exact .inr ⟨n, m⟩
  · exact absurd e e'
  · exact absurd e' e
  · exact AR.alik_l fs fs' (FSF.alik fit0 fit0 (.inl rfl) h h') a a'
def MRet (g : List Nat) (w : World) (e : Ending) (w' : World) : Prop := ∃ b, MeanIs g b ∧ Fit b ∧ e = .returned (.tuple #[.float .f64 b, .int .i64 (g.length : Int)]) ∧ Below w.heap.size w w'

structure MeanAt (w : World) (zs : List Nat) (k s c : Nat) (wx : World) : Prop where
  sum : FSF 0 (good (zs.take k)) s
  count : c = (good (zs.take k)).length
  fit : Fit s
  le : c ≤ k
  below : Below w.heap.size w wx

theorem take_snoc_nat (zs : List Nat) (k : Nat) (h : k < zs.length) : zs.take (k + 1) = zs.take k ++ [zs.getD k 0] := by
  rw [List.take_succ_eq_append_getElem h]; simp [h]
theorem good_snoc (l : List Nat) (x : Nat) : good (l ++ [x]) = if nanB x then good l else good l ++ [x] := by
  unfold good; rw [List.filter_append]; cases h : nanB x <;> simp [h]
theorem MeanAt.skip {w wx : World} {zs : List Nat} {k s c x : Nat} (h : MeanAt w zs k s c wx) (hk : k < zs.length) (hx : zs.getD k 0 = x) (hn : nanB x = true) : MeanAt w zs (k + 1) s c wx := by
  have e : good (zs.take (k + 1)) = good (zs.take k) := by rw [take_snoc_nat zs k hk, hx, good_snoc, hn]; rfl
  exact ⟨by rw [e]; exact h.sum, by rw [e]; exact h.count, h.fit, by have := h.le; omega, h.below⟩
theorem MeanAt.add {w wx w1 : World} {zs : List Nat} {k s c x t : Nat} (h : MeanAt w zs k s c wx) (hk : k < zs.length) (hx : zs.getD k 0 = x) (hn : nanB x = false) (ft : Fit t) (a : AR .add s x t) (B : Below w.heap.size w w1) : MeanAt w zs (k + 1) t (c + 1) w1 := by
  have e : good (zs.take (k + 1)) = good (zs.take k) ++ [x] := by rw [take_snoc_nat zs k hk, hx, good_snoc, hn]; rfl
  exact ⟨by rw [e]; exact h.sum.snoc ft a, by rw [e, List.length_append, h.count]; rfl, ft, by have := h.le; omega, B⟩

theorem nan_bits : NaN 9221120237041090561 ∧ Fit 9221120237041090561 := by unfold NaN Fit; omega
theorem zero_by_zero : floatBits .quo .f64 0 0 = none := by decide +kernel
theorem tuple_ret {b : Nat} {c d : Int} (h : c = d) : Ending.returned (.tuple #[.float .f64 b, .int .i64 c]) = .returned (.tuple #[.float .f64 b, .int .i64 d]) := by rw [h]

set_option maxHeartbeats 1000000 in
theorem mean_any (a : Option Addr) (len cap : Nat) (zs : List Nat) (w : World) (hm : len ≤ 9223372036854775807) (hz : Flts w a len zs) :
    Calls Try.prog 46 #[.slice a len cap] w (MRet (good zs) w) := by
  obtain ⟨hlen, hfit, hz⟩ := hz
  have HL := Lib.hid hlen
  have HF := Lib.hid hfit
  clear hlen hfit
  have r74 := run74
  go_enter Try.func46, Try.ntmps46
  go_wp2
  go_loopw [4, 5, 10] (fun t n i wx => ∃ (k s c : Nat), k ≤ len ∧ MeanAt w zs k s c wx ∧ t = .float .f64 s ∧ n = .int .i64 (c : Int) ∧ i = .int .i64 (k : Int)) (fun _ _ i _ => len - (intOf i).toNat)
  case atStart => exact ⟨0, 0, 0, by omega, ⟨by simp [good, FSF], by simp [good], fit0, by omega, Below.refl _ _⟩, rfl, rfl, rfl⟩
  case round =>
    obtain ⟨k, s, c, hk, hM, rfl, rfl, rfl⟩ := hrel
    have hle := hM.le
    by_cases hlt : k < len
    · rcases hz with hz | ⟨b, off, ha, hc⟩
      · omega
      · subst ha
        have hck := hc k hlt
        have hbl := World.block_lt_of_cell? w _ hck
        have gx := (hM.below.cell (p := ⟨b, off + k, none⟩) hbl).trans hck
        clear hck hc
        have hf : Fit (zs.getD k 0) := by
          have hk' : k < zs.length := by rw [HL.out]; exact hlt
          rw [show zs.getD k 0 = zs[k] by simp [hk']]; exact HF.out _ (List.getElem_mem hk')
        generalize hX : zs.getD k 0 = x at gx hf
        have HX := Lib.hid hX
        clear hX
        rcases hn : nanB x
        · obtain ⟨t, w1, q1, ft, a1⟩ := run_arith .add (.inl rfl) 45 s x wr
          obtain ⟨r1, b1⟩ := toAR a1
          have HM := hM.add (by rw [HL.out]; exact hlt) HX.out hn ft r1 (hM.below.trans (b1.mono hM.below.size))
          clear a1 r1 b1
          go_wp2_with (go_at_call 64; refine (isNaN_any _ hf _).mono ?_; rintro e w' ⟨rfl, rfl⟩)
          go_roundw
          case rel => exact ⟨k + 1, t, c + 1, by omega, HM, rfl, by go_num, by go_num⟩
          case measure => simp [intOf]; omega
        · have HM := hM.skip (by rw [HL.out]; exact hlt) HX.out hn
          go_wp2_with (go_at_call 64; refine (isNaN_any _ hf _).mono ?_; rintro e w' ⟨rfl, rfl⟩)
          go_roundw
          case rel => exact ⟨k + 1, s, c, by omega, HM, rfl, rfl, by go_num⟩
          case measure => simp [intOf]; omega
    · have hkl : k = len := by omega
      subst hkl
      have e1 : zs.take k = zs := List.take_of_length_le (by rw [HL.out]; exact Nat.le_refl _)
      have hsum := hM.sum
      have hcount := hM.count
      rw [e1] at hsum hcount
      have HS := Lib.hid hsum
      have HC := Lib.hid hcount
      clear hsum hcount e1
      by_cases h0 : c = 0
      · subst h0
        go_wp2
        go_ret2
        have hg : good zs = [] := List.eq_nil_of_length_eq_zero HC.out.symm
        exact ⟨9221120237041090561, .inl ⟨hg, nan_bits.1⟩, nan_bits.2, tuple_ret (by rw [hg]; rfl), hM.below⟩
      · have g0 : ((c : Int) == 0) = false := by simp; omega
        obtain ⟨t, w1, q1, ft, a1⟩ := run_arith .quo (.inr (.inr (.inr rfl))) 45 s (floatOfInt .f64 (c : Int)) wr
        obtain ⟨r1, b1⟩ := toAR a1
        have HR : Hid (MeanIs (good zs) t) := Lib.hid (.inr ⟨fun h => by have := HC.out; rw [h] at this; simp at this; omega, s, hM.fit, HS.out, by rw [← HC.out]; exact r1⟩)
        have HB := hM.below.trans (b1.mono hM.below.size)
        clear a1 r1 b1
        go_wp2
        go_ret2
        exact ⟨t, HR.out, ft, tuple_ret (by rw [HC.out]), HB⟩

theorem rnan_any (w : World) : Calls Try.prog 69 #[] w (FRet NaN w) := by
  obtain ⟨b, w1, q, fb, ⟨e, _⟩ | ⟨_, n, rfl⟩⟩ := run_arith .quo (.inr (.inr (.inr rfl))) 45 0 0 w
  · rw [zero_by_zero] at e; cases e
  · go_enter Try.func69, Try.ntmps69
    go_wp2
    go_ret
    exact ⟨b, n, fb, rfl, (Below.refl _ _).drew⟩
end Go.Proofs.Ytmhfbgcfagfmbaa
