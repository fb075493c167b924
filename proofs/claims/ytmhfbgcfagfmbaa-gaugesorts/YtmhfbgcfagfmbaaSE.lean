/- Contract: gauge.Sort. -/
import Derived.Test.YtmhfbgcfagfmbaaSD
namespace Go.Proofs.Ytmhfbgcfagfmbaa
open Go.Shelf Go.RowKit Go.Lib Go.Sort

theorem clone_some (b off n c : Nat) (zs : List Nat) (w : World) (hl : zs.length = n) (hn : n ≤ 200) (hc : ∀ j, j < n → w.cell? ⟨b, off + j, none⟩ = some (.float .f64 (zs.getD j 0))) :
    Calls Try.prog 70 #[.slice (some ⟨b, off, none⟩) n c] w fun e w' => ∃ v', e = .returned v' ∧ w'.ownsRow w.heap.size 45 1 v' n (zs.map (Value.float .f64)) ∧ v' ≠ .slice none 0 0 ∧ Below w.heap.size w w' := by
  have h := AnyE.slices_Clone Try.clone70 _ (.float .f64 0) 1 8 rfl rfl rfl rfl rfl (by omega) (fun w => rfl) b off n c (zs.map (Value.float .f64)) w (by simp [hl]) (by unfold maxLen; omega) (by omega)
    (fun j u hj => by
      rw [List.getElem?_map] at hj
      obtain ⟨z, hz, rfl⟩ := Option.map_eq_some_iff.1 hj
      have hj' : j < zs.length := (List.getElem?_eq_some_iff.1 hz).1
      rw [hc j (by omega)]
      simp [List.getD, hz])
    (fun u hu => by obtain ⟨z, _, rfl⟩ := List.mem_map.1 hu; rfl)
  exact h
theorem clone_nil (n c : Nat) (w : World) : Calls Try.prog 70 #[.slice none n c] w fun e w' => e = .returned (.slice none 0 0) ∧ w' = w := AnyE.slices_Clone_nil Try.clone70 n c w

theorem own_holds {w : World} {g n : Nat} {zs : List Nat} {cur : Array Value} (hf : ∀ z ∈ zs, Fit z) (hl : zs.length = n) (hg : w.heap[g]? = some (.cells cur 45 (0, 0))) (ht : cur.toList.take (n * 1) = zs.map (Value.float .f64)) : Holds encF w g 0 (toF zs) := by
  intro j hj
  rw [toF_size] at hj
  have e : encF (toF zs)[j]! = .float .f64 (zs.getD j 0) := by unfold encF; rw [toF_get hf hj]
  have hc : cur[j]? = some (.float .f64 (zs.getD j 0)) := by
    have h1 : (cur.toList.take (n * 1))[j]? = cur.toList[j]? := by rw [List.getElem?_take]; simp; omega
    rw [ht, List.getElem?_map, List.getElem?_eq_getElem hj] at h1
    rw [← Array.getElem?_toList, ← h1]
    simp [hj]
  rw [e]
  constructor
  · simp [World.cell?, hg, hc]
  · simp [World.frozen?, hg]

set_option maxHeartbeats 2000000 in
theorem gsort_any (a : Option Addr) (len cap : Nat) (zs : List Nat) (w : World) (hm : len ≤ 200) (hz : Flts w a len zs) (ha0 : ∀ x, a = some x → ∃ b off, x = ⟨b, off, none⟩) : Calls Try.prog 49 #[.slice a len cap] w (SortRet zs len w) := by
  obtain ⟨hlen, hfit, hz⟩ := hz
  have HL : Hid (zs.length = len) := hlen
  have HF : Hid (∀ z ∈ zs, Fit z) := hfit
  cases a with
  | none =>
    have h0 : len = 0 := by rcases hz with h | ⟨b, off, h, _⟩; exact h; cases h
    subst h0
    have HE : Hid (zs = []) := List.eq_nil_of_length_eq_zero hlen
    clear hlen hfit hz ha0
    go_enter Try.func49, Try.ntmps49
    go_wp2_with fail
    refine (clone_nil _ _ _).mono ?_
    rintro e w' ⟨rfl, rfl⟩
    go_wp2_with fail
    refine (stable_none none 0 _).mono ?_
    rintro e w' ⟨rfl, rfl⟩
    go_wp2
    go_ret
    exact ⟨none, 0, [], rfl, ⟨rfl, fun z hz => by simp at hz, .inl rfl⟩, by rw [HE.out], fun i j _ h => by omega, Below.refl _ _⟩
  | some x =>
    obtain ⟨b, off, rfl⟩ := ha0 x rfl
    have hc : Hid (∀ j, j < len → w.cell? ⟨b, off + j, none⟩ = some (.float .f64 (zs.getD j 0))) := by
      rcases hz with h | ⟨b', off', h, hc⟩
      · exact fun j hj => by omega
      · cases h; exact hc
    clear hlen hfit hz ha0
    go_enter Try.func49, Try.ntmps49
    go_wp2_with fail
    refine (clone_some b off len cap zs _ HL.out hm hc.out).mono ?_
    rintro e w1 ⟨v, rfl, ho, hn, hB⟩
    obtain ⟨_, ho⟩ := ho
    rcases ho with ⟨h, _⟩ | ⟨g, cp, cur, rfl, hgb, hgc, _, _, _, ht⟩
    · exact absurd h hn
    have HH : Hid (Holds encF w1 g 0 (toF zs)) := own_holds HF.out HL.out hgc ht
    have hgs : g < w1.heap.size := by
      rcases Nat.lt_or_ge g w1.heap.size with h | h
      · exact h
      · rw [Array.getElem?_eq_none h] at hgc; cases hgc
    clear hn hgc ht
    by_cases h0 : len = 0
    · subst h0
      have HE : Hid (zs = []) := List.eq_nil_of_length_eq_zero HL.out
      go_wp2_with fail
      refine (stable_none _ _ _).mono ?_
      rintro e w' ⟨rfl, rfl⟩
      go_wp2
      go_ret
      exact ⟨_, _, [], rfl, ⟨rfl, fun z hz => by simp at hz, .inl rfl⟩, by rw [HE.out], fun i j _ h => by omega, hB⟩
    · go_wp2_with fail
      refine (sortStable_any g 0 cp len (toF zs) _ HH.out hgs ((toF_size zs).trans HL.out) (by omega)).mono ?_
      rintro e w' ⟨rfl, d1, P1, Q1, S1⟩
      go_wp2
      go_ret
      exact SortRet.of HL.out HF.out hB hgb hgs HH.out P1 Q1 S1

end Go.Proofs.Ytmhfbgcfagfmbaa
