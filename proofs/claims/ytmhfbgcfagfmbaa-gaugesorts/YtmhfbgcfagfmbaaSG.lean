/- Contract: gauge.Kinds. -/
import Derived.Test.YtmhfbgcfagfmbaaFF
namespace Go.Proofs.Ytmhfbgcfagfmbaa
open Go.RowKit

/-- How many of a list are of a kind. -/
def cntK (j : Int) : List Nat → Nat
  | [] => 0
  | x :: r => (if kindF x = j then 1 else 0) + cntK j r
theorem cntK_snoc (j : Int) (x : Nat) : ∀ l, cntK j (l ++ [x]) = cntK j l + (if kindF x = j then 1 else 0)
  | [] => by simp [cntK]
  | y :: r => by simp only [List.cons_append, cntK, cntK_snoc j x r]; omega
theorem cntK_le (j : Int) : ∀ l, cntK j l ≤ l.length
  | [] => by simp [cntK]
  | y :: r => by have := cntK_le j r; simp only [cntK, List.length_cons]; split <;> omega
/-- The counts of all kinds, as cells. -/
def cells7 (l : List Nat) : Array Value := #[.int .i64 (cntK 0 l : Int), .int .i64 (cntK 1 l : Int), .int .i64 (cntK 2 l : Int), .int .i64 (cntK 3 l : Int), .int .i64 (cntK 4 l : Int), .int .i64 (cntK 5 l : Int), .int .i64 (cntK 6 l : Int)]


def KAt (zs : List Nat) (k c0 c1 c2 c3 c4 c5 c6 : Nat) : Prop := c0 = cntK 0 (zs.take k) ∧ c1 = cntK 1 (zs.take k) ∧ c2 = cntK 2 (zs.take k) ∧ c3 = cntK 3 (zs.take k) ∧ c4 = cntK 4 (zs.take k) ∧ c5 = cntK 5 (zs.take k) ∧ c6 = cntK 6 (zs.take k)
theorem KAt.le {zs : List Nat} {k c0 c1 c2 c3 c4 c5 c6 : Nat} (h : KAt zs k c0 c1 c2 c3 c4 c5 c6) : c0 ≤ k ∧ c1 ≤ k ∧ c2 ≤ k ∧ c3 ≤ k ∧ c4 ≤ k ∧ c5 ≤ k ∧ c6 ≤ k := by
  obtain ⟨h0, h1, h2, h3, h4, h5, h6⟩ := h
  have hl : (zs.take k).length ≤ k := by simp; omega
  refine ⟨?_, ?_, ?_, ?_, ?_, ?_, ?_⟩
  · have := cntK_le 0 (zs.take k); omega
  · have := cntK_le 1 (zs.take k); omega
  · have := cntK_le 2 (zs.take k); omega
  · have := cntK_le 3 (zs.take k); omega
  · have := cntK_le 4 (zs.take k); omega
  · have := cntK_le 5 (zs.take k); omega
  · have := cntK_le 6 (zs.take k); omega
theorem KAt.snoc0 {zs : List Nat} {k x c0 c1 c2 c3 c4 c5 c6 : Nat} (h : KAt zs k c0 c1 c2 c3 c4 c5 c6) (hk : k < zs.length) (hx : zs.getD k 0 = x) (hv : kindF x = 0) : KAt zs (k + 1) (c0 + 1) c1 c2 c3 c4 c5 c6 := by
  unfold KAt at h ⊢
  rw [take_snoc_nat zs k hk, hx]
  simp only [cntK_snoc, hv]
  simp
  exact h
theorem KAt.snoc1 {zs : List Nat} {k x c0 c1 c2 c3 c4 c5 c6 : Nat} (h : KAt zs k c0 c1 c2 c3 c4 c5 c6) (hk : k < zs.length) (hx : zs.getD k 0 = x) (hv : kindF x = 1) : KAt zs (k + 1) c0 (c1 + 1) c2 c3 c4 c5 c6 := by
  unfold KAt at h ⊢
  rw [take_snoc_nat zs k hk, hx]
  simp only [cntK_snoc, hv]
  simp
  exact h
theorem KAt.snoc2 {zs : List Nat} {k x c0 c1 c2 c3 c4 c5 c6 : Nat} (h : KAt zs k c0 c1 c2 c3 c4 c5 c6) (hk : k < zs.length) (hx : zs.getD k 0 = x) (hv : kindF x = 2) : KAt zs (k + 1) c0 c1 (c2 + 1) c3 c4 c5 c6 := by
  unfold KAt at h ⊢
  rw [take_snoc_nat zs k hk, hx]
  simp only [cntK_snoc, hv]
  simp
  exact h
theorem KAt.snoc3 {zs : List Nat} {k x c0 c1 c2 c3 c4 c5 c6 : Nat} (h : KAt zs k c0 c1 c2 c3 c4 c5 c6) (hk : k < zs.length) (hx : zs.getD k 0 = x) (hv : kindF x = 3) : KAt zs (k + 1) c0 c1 c2 (c3 + 1) c4 c5 c6 := by
  unfold KAt at h ⊢
  rw [take_snoc_nat zs k hk, hx]
  simp only [cntK_snoc, hv]
  simp
  exact h
theorem KAt.snoc4 {zs : List Nat} {k x c0 c1 c2 c3 c4 c5 c6 : Nat} (h : KAt zs k c0 c1 c2 c3 c4 c5 c6) (hk : k < zs.length) (hx : zs.getD k 0 = x) (hv : kindF x = 4) : KAt zs (k + 1) c0 c1 c2 c3 (c4 + 1) c5 c6 := by
  unfold KAt at h ⊢
  rw [take_snoc_nat zs k hk, hx]
  simp only [cntK_snoc, hv]
  simp
  exact h
theorem KAt.snoc5 {zs : List Nat} {k x c0 c1 c2 c3 c4 c5 c6 : Nat} (h : KAt zs k c0 c1 c2 c3 c4 c5 c6) (hk : k < zs.length) (hx : zs.getD k 0 = x) (hv : kindF x = 5) : KAt zs (k + 1) c0 c1 c2 c3 c4 (c5 + 1) c6 := by
  unfold KAt at h ⊢
  rw [take_snoc_nat zs k hk, hx]
  simp only [cntK_snoc, hv]
  simp
  exact h
theorem KAt.snoc6 {zs : List Nat} {k x c0 c1 c2 c3 c4 c5 c6 : Nat} (h : KAt zs k c0 c1 c2 c3 c4 c5 c6) (hk : k < zs.length) (hx : zs.getD k 0 = x) (hv : kindF x = 6) : KAt zs (k + 1) c0 c1 c2 c3 c4 c5 (c6 + 1) := by
  unfold KAt at h ⊢
  rw [take_snoc_nat zs k hk, hx]
  simp only [cntK_snoc, hv]
  simp
  exact h

set_option maxHeartbeats 4000000 in
theorem kinds_any (a : Option Addr) (len cap : Nat) (zs : List Nat) (w : World) (hm : len ≤ 200) (hz : Flts w a len zs) :
    Calls Try.prog 50 #[.slice a len cap] w fun e w' => e = .returned (.agg (cells7 zs)) ∧ Below w.heap.size w w' := by
  obtain ⟨hlen, hfit, hz⟩ := hz
  have HL := Lib.hid hlen
  have HF := Lib.hid hfit
  clear hlen hfit
  go_enter Try.func50, Try.ntmps50
  go_wp2
  go_loopw [8] (fun i wx => ∃ (k c0 c1 c2 c3 c4 c5 c6 : Nat), wx = (w.alloc (.cells #[.int .i64 0, .int .i64 0, .int .i64 0, .int .i64 0, .int .i64 0, .int .i64 0, .int .i64 0] 58)).alloc (.cells #[.int .i64 (c0 : Int), .int .i64 (c1 : Int), .int .i64 (c2 : Int), .int .i64 (c3 : Int), .int .i64 (c4 : Int), .int .i64 (c5 : Int), .int .i64 (c6 : Int)] 58) ∧ k ≤ len ∧ Hid (KAt zs k c0 c1 c2 c3 c4 c5 c6) ∧ i = .int .i64 (k : Int)) (fun i _ => len - (intOf i).toNat)
  case atStart => exact ⟨0, 0, 0, 0, 0, 0, 0, 0, by first | rfl | simp, by omega, by show KAt _ _ _ _ _ _ _ _ _; simp [KAt, cntK], rfl⟩
  case round =>
    obtain ⟨k, c0, c1, c2, c3, c4, c5, c6, rfl, hk, hM, rfl⟩ := hrel
    obtain ⟨l0, l1, l2, l3, l4, l5, l6⟩ := hM.out.le
    by_cases hlt : k < len
    · have hltz : (k : Int) < (len : Int) := by omega
      rcases hz with hz | ⟨b, off, ha, hc⟩
      · omega
      subst ha
      have hck := hc k hlt
      have hbl := World.block_lt_of_cell? w _ hck
      have hf : Fit (zs.getD k 0) := by
        have hk' : k < zs.length := by rw [HL.out]; exact hlt
        rw [show zs.getD k 0 = zs[k] by simp [hk']]; exact HF.out _ (List.getElem_mem hk')
      generalize hX : zs.getD k 0 = x at hck hf
      have HX := Lib.hid hX
      clear hX hc
      have gx : ((w.alloc (.cells #[.int .i64 0, .int .i64 0, .int .i64 0, .int .i64 0, .int .i64 0, .int .i64 0, .int .i64 0] 58)).alloc (.cells #[.int .i64 (c0 : Int), .int .i64 (c1 : Int), .int .i64 (c2 : Int), .int .i64 (c3 : Int), .int .i64 (c4 : Int), .int .i64 (c5 : Int), .int .i64 (c6 : Int)] 58)).cell? ⟨b, off + k, none⟩ = some (.float .f64 x) := by
        rw [Lib.cell?_alloc_some _ (Lib.cell?_alloc_some _ hck)]
      clear hck
      have hkl : k < zs.length := by rw [HL.out]; exact hlt
      have hkk : kindF x = 0 ∨ kindF x = 1 ∨ kindF x = 2 ∨ kindF x = 3 ∨ kindF x = 4 ∨ kindF x = 5 ∨ kindF x = 6 := by
        rcases kind_cases hf with ⟨_, h, _⟩ | ⟨_, _, h, _⟩ | ⟨_, h, _⟩ | ⟨_, h, _⟩ | ⟨_, h, _⟩ | ⟨_, _, h, _⟩ | ⟨_, h, _⟩ <;> rw [h] <;> decide
      rcases hkk with h | h | h | h | h | h | h
      · have HM2 := Lib.hid (hM.out.snoc0 hkl HX.out h)
        go_wp2_with fail
        refine (kind_any x hf _).mono ?_
        rw [h]
        rintro e w' ⟨rfl, rfl⟩
        go_wp2
        go_roundw
        case rel => exact ⟨k + 1, c0 + 1, c1, c2, c3, c4, c5, c6, by first | rfl | trivial | simp, by omega, HM2, by go_num⟩
        case measure => simp [intOf]; omega
      · have HM2 := Lib.hid (hM.out.snoc1 hkl HX.out h)
        go_wp2_with fail
        refine (kind_any x hf _).mono ?_
        rw [h]
        rintro e w' ⟨rfl, rfl⟩
        go_wp2
        go_roundw
        case rel => exact ⟨k + 1, c0, c1 + 1, c2, c3, c4, c5, c6, by first | rfl | trivial | simp, by omega, HM2, by go_num⟩
        case measure => simp [intOf]; omega
      · have HM2 := Lib.hid (hM.out.snoc2 hkl HX.out h)
        go_wp2_with fail
        refine (kind_any x hf _).mono ?_
        rw [h]
        rintro e w' ⟨rfl, rfl⟩
        go_wp2
        go_roundw
        case rel => exact ⟨k + 1, c0, c1, c2 + 1, c3, c4, c5, c6, by first | rfl | trivial | simp, by omega, HM2, by go_num⟩
        case measure => simp [intOf]; omega
      · have HM2 := Lib.hid (hM.out.snoc3 hkl HX.out h)
        go_wp2_with fail
        refine (kind_any x hf _).mono ?_
        rw [h]
        rintro e w' ⟨rfl, rfl⟩
        go_wp2
        go_roundw
        case rel => exact ⟨k + 1, c0, c1, c2, c3 + 1, c4, c5, c6, by first | rfl | trivial | simp, by omega, HM2, by go_num⟩
        case measure => simp [intOf]; omega
      · have HM2 := Lib.hid (hM.out.snoc4 hkl HX.out h)
        go_wp2_with fail
        refine (kind_any x hf _).mono ?_
        rw [h]
        rintro e w' ⟨rfl, rfl⟩
        go_wp2
        go_roundw
        case rel => exact ⟨k + 1, c0, c1, c2, c3, c4 + 1, c5, c6, by first | rfl | trivial | simp, by omega, HM2, by go_num⟩
        case measure => simp [intOf]; omega
      · have HM2 := Lib.hid (hM.out.snoc5 hkl HX.out h)
        go_wp2_with fail
        refine (kind_any x hf _).mono ?_
        rw [h]
        rintro e w' ⟨rfl, rfl⟩
        go_wp2
        go_roundw
        case rel => exact ⟨k + 1, c0, c1, c2, c3, c4, c5 + 1, c6, by first | rfl | trivial | simp, by omega, HM2, by go_num⟩
        case measure => simp [intOf]; omega
      · have HM2 := Lib.hid (hM.out.snoc6 hkl HX.out h)
        go_wp2_with fail
        refine (kind_any x hf _).mono ?_
        rw [h]
        rintro e w' ⟨rfl, rfl⟩
        go_wp2
        go_roundw
        case rel => exact ⟨k + 1, c0, c1, c2, c3, c4, c5, c6 + 1, by first | rfl | trivial | simp, by omega, HM2, by go_num⟩
        case measure => simp [intOf]; omega
    · have hltz : ¬ (k : Int) < (len : Int) := by omega
      have hkl : k = len := by omega
      subst hkl
      have HC : Hid (cells7 zs = #[.int .i64 (c0 : Int), .int .i64 (c1 : Int), .int .i64 (c2 : Int), .int .i64 (c3 : Int), .int .i64 (c4 : Int), .int .i64 (c5 : Int), .int .i64 (c6 : Int)]) := by
        have h := hM.out
        unfold KAt at h
        rw [List.take_of_length_le (by rw [HL.out]; exact Nat.le_refl _)] at h
        obtain ⟨rfl, rfl, rfl, rfl, rfl, rfl, rfl⟩ := h
        rfl
      go_wp2
      exact bodyPost_ret (v := .agg #[.int .i64 (c0 : Int), .int .i64 (c1 : Int), .int .i64 (c2 : Int), .int .i64 (c3 : Int), .int .i64 (c4 : Int), .int .i64 (c5 : Int), .int .i64 (c6 : Int)]) (by simp [results, Try.results50, go_sem]) rfl ⟨by rw [HC.out], ((Below.refl _ w).alloc (Nat.le_refl _) _).alloc (by simp) _⟩

end Go.Proofs.Ytmhfbgcfagfmbaa
