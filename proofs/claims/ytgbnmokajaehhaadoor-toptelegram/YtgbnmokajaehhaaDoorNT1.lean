/- Telegrams: the contracts at hand. -/
import Derived.Test.YtgbnmokajaehhaaDoorNT0
namespace Go.Proofs.YtgbnmokajaehhaaDoor
open Go.RowKit Go.Sort
set_option linter.unusedVariables false
theorem te_text (p t : ByteArray) (h : bs (eT p) = t) (hs : p.size ≤ 500) (w : World) : Calls Tryd.prog 27 #[.string p] w fun e w' => e = .returned (.tuple #[.string t, .int .i64 0]) ∧ Below w.heap.size w w' := by
  subst h
  have h := Oc.text_ok p w (by omega)
  unfold Oc.strErr Oc.textB at h
  rwa [show Oc.bs (Oc.numL 2 p.size) ++ p = bs (eT p) from by apply ByteArray.ext; apply Array.toList_inj.1; simp [Oc.bs, bs, eT]] at h
theorem te_word (p x : ByteArray) (h : wdT p = x) (hs : p.size ≤ 500) (w : World) : Calls Tryd.prog 11 #[.string p] w fun e w' => e = .returned (.string x) ∧ Below w.heap.size w w' := by
  subst h; exact word_all p (by omega) w
theorem te_digits (n : Nat) (x : ByteArray) (h : wdN n = x) (hn : n < 18446744073709551616) (w : World) (hE : Env w) : Calls Tryd.prog 22 #[.int .u64 (n : Int)] w fun e w' => e = .returned (.string x) ∧ Below w.heap.size w w' := by
  subst h; exact digits_any n hn w hE
theorem te_sum (s : ByteArray) (u : Nat) (h : Oc.sumN s.data.toList = u) (hs : s.size ≤ 100000) (w : World) : Calls Tryd.prog 29 #[.string s] w fun e w' => e = .returned (.int .u32 (u : Int)) ∧ Below w.heap.size w w' := by
  subst h; exact Oc.sum_any s w (Nat.le_trans hs (by decide))
theorem te_join (l m : List UInt8) (n : Int) (u v z : Nat) (hn : n = (m.length : Int)) (hm : m.length ≤ 1000) (hu : Oc.sumN l = u) (hv : Oc.sumN m = v) (hz : Oc.sumN (l ++ m) = z) (w : World) :
    Calls Tryd.prog 28 #[.int .u32 (u : Int), .int .u32 (v : Int), .int .i64 n] w fun e w' => e = .returned (.int .u32 (z : Int)) ∧ w = w' := by
  subst hn hu hv hz
  have h := Oc.join_any (Oc.sumN l) (Oc.sumN m) (m.length : Int) w (Oc.sumN_lt l) (Oc.sumN_lt m)
  rwa [Oc.joinZ_nat (by omega), Oc.joinN_sum] at h
theorem te_rise (n : Nat) (t : ByteArray) (h : bs (Oc.numL 8 n) = t) (hn : n < 18446744073709551616) (w : World) : Calls Tryd.prog 30 #[.int .u64 (n : Int)] w fun e w' => e = .returned (.string t) ∧ Below w.heap.size w w' := by
  subst h; exact Oc.rise_any n w hn
theorem te_num (u : Nat) (t : ByteArray) (h : bs (Oc.numL 4 u) = t) (hu : u < 4294967296) (w : World) : Calls Tryd.prog 32 #[.int .i64 4, .int .u64 (u : Int)] w fun e w' => e = .returned (.string t) ∧ Below w.heap.size w w' := by
  subst h; exact Oc.num_ok 4 u w (by omega) (by omega) (by omega)
theorem te_unword (p x : ByteArray) (h : wdT p = x) (hs : p.size ≤ 500) (w : World) : Calls Tryd.prog 8 #[.string x] w fun e w' => e = .returned (.tuple #[.string p, .int .i64 0]) ∧ Below w.heap.size w w' := by
  subst h
  have h := unword_all (wdT p) (by unfold wdT; rw [bs_size]; have := wordS_le p.data.toList; rw [← blen] at this; omega) w
  unfold wdT at h ⊢
  rw [bs_toList, unw_back] at h
  rwa [show bs p.data.toList = p from Oc.bs_of p] at h
theorem te_number (n : Nat) (x : ByteArray) (h : wdN n = x) (hn : n < 18446744073709551616) (w : World) (hE : Env w) : Calls Tryd.prog 18 #[.string x] w fun e w' => e = .returned (.tuple #[.int .u64 (n : Int), .int .i64 0]) ∧ Below w.heap.size w w' := by
  subst h
  have h := number_any (wdN n) (by unfold wdN; rw [bs_size]; have := nDigits_le n hn; omega) w hE
  unfold wdN at h ⊢
  rw [bs_toList, num_back n hn] at h
  exact h
theorem te_rtext (b : Nat) (q q' p : ByteArray) (h : Oc.textS q 0 500 = (q', 0, p)) (w : World) (hr : Oc.Rd w b q 0) (hs : q.size ≤ 100000) :
    Calls Tryd.prog 33 #[.pointer (some ⟨b, 0, none⟩), .int .i64 500] w (Oc.Reads b w q' 0 (.string p)) := by
  have := Oc.rtext_any b 500 q 0 w hr (.inl rfl) (Nat.le_trans hs (by decide))
  rwa [h] at this
theorem te_raw (b : Nat) (q q' p : ByteArray) (h : Oc.rawS q 0 8 = (q', 0, p)) (w : World) (hr : Oc.Rd w b q 0) (hs : q.size ≤ 100000) :
    Calls Tryd.prog 35 #[.pointer (some ⟨b, 0, none⟩), .int .i64 8] w (Oc.Reads b w q' 0 (.string p)) := by
  have := Oc.raw_any b 8 q 0 w hr (.inl rfl) (Nat.le_trans hs (by decide))
  rwa [h] at this
theorem te_rnum (b : Nat) (q q' : ByteArray) (u : Nat) (h : Oc.numS q 0 4 = (q', 0, u)) (w : World) (hr : Oc.Rd w b q 0) (hs : q.size ≤ 100000) :
    Calls Tryd.prog 36 #[.pointer (some ⟨b, 0, none⟩), .int .i64 4] w (Oc.Reads b w q' 0 (.int .u64 (u : Int))) := by
  have := Oc.rnumS_any b 4 q 0 w hr (.inl rfl) (Nat.le_trans hs (by decide))
  rwa [h] at this
theorem te_ofRise (n : Nat) (t : ByteArray) (h : bs (Oc.numL 8 n) = t) (hn : n < 18446744073709551616) (w : World) : Calls Tryd.prog 34 #[.string t] w fun e w' => e = .returned (.tuple #[.int .u64 (n : Int), .int .i64 0]) ∧ w = w' := by
  subst h
  have h := Oc.ofRise_ok (bs (Oc.numL 8 n)) w (by rw [bs_size, Oc.numL_length])
  rw [bs_toList, Oc.ofL_num8 n hn] at h
  exact h
theorem te_end (b : Nat) (q : ByteArray) (h : q.size = 0) (w : World) (hr : Oc.Rd w b q 0) : Calls Tryd.prog 37 #[.pointer (some ⟨b, 0, none⟩)] w fun x w' => x = .returned (.int .i64 0) ∧ w = w' := by
  have h2 := Oc.end_any b q 0 w hr
  rwa [show Oc.endF q 0 = 0 by unfold Oc.endF; rw [if_pos rfl, h]; rfl] at h2
theorem SRow.at {w0 wx : World} {ps : List ByteArray} {v : Value} {n : Nat} (h : SRow w0 ps v n wx) (hn : 0 < n) : ∃ a c, v = .slice a n c ∧ n ≤ c ∧ Strs wx a n ps := by
  obtain ⟨a, c, hv, hS⟩ := h.strs
  refine ⟨a, c, hv, ?_, hS⟩
  rcases h.own.2 with ⟨rfl, h0⟩ | ⟨g, cap, cur, rfl, hb, hg, hcap, _⟩
  · omega
  · simp only [Value.slice.injEq] at hv
    omega
theorem te_line (a : Option Addr) (n c : Nat) (ps : List ByteArray) (J : ByteArray) (hJ : bs (Lib.join (ps.map (·.data.toList)) [32]) = J) (w : World) (hS : Strs w a n ps) (hn : 0 < n) (hc : n ≤ c) (hlen : (ps.map (·.data.toList.length)).sum + ps.length ≤ 2097152) :
    Calls Tryd.prog 16 #[.slice a n c] w fun e w' => e = .returned (.string J) ∧ Below w.heap.size w w' := by subst hJ; exact line_any a n c ps w hS hn hc hlen
/-- The words of a line, laid anew. -/
theorem te_words (ps : List ByteArray) (J : ByteArray) (n : Nat) (hJ : bs (Lib.join (ps.map (·.data.toList)) [32]) = J) (hn : ps.length = n) (h0 : 0 < n) (hc : ∀ y ∈ ps, (32 : UInt8) ∉ y.data.toList) (hs : J.size ≤ 1048576) (w : World) (hE : Env w) :
    Calls Tryd.prog 14 #[.string J] w fun e w' => e = .returned (.slice (some ⟨w.heap.size, 0, none⟩) n n) ∧ At w' w.heap.size ps ∧ Below w.heap.size w w' := by
  obtain ⟨x, r, hpr⟩ : ∃ x r, ps = x :: r := by
    cases hps : ps with
    | nil => rw [hps] at hn; simp at hn; omega
    | cons x r => exact ⟨x, r, rfl⟩
  have hw := words_join ps x r hpr hc
  rw [hJ] at hw
  have h := words_any J hs w hE
  have hrl : r.length + 1 = n := by rw [← hn, hpr]; rfl
  rw [hw.1, hw.2, hrl] at h
  refine h.mono ?_
  rintro e w' ⟨rfl, rfl⟩
  refine ⟨rfl, ?_, (Below.refl _ _).alloc (Nat.le_refl _) _⟩
  have hA := Strs.split w ps 9
  rcases hA.2 with h1 | ⟨b, off, ha, hb, hcs⟩
  · omega
  · simp only [Option.some.injEq, Addr.mk.injEq, and_true] at ha
    obtain ⟨rfl, rfl⟩ := ha
    exact ⟨hb, fun j hj => by have := hcs j hj; rwa [Nat.zero_add] at this⟩
theorem te_words_nil (w : World) (hE : Env w) : Calls Tryd.prog 14 #[.string ⟨#[]⟩] w fun e w' => (∃ v, e = .returned v) ∧ Below w.heap.size w w' := by
  refine (words_any ⟨#[]⟩ (by decide) w hE).mono ?_
  rintro e w' ⟨rfl, rfl⟩
  exact ⟨⟨_, rfl⟩, (Below.refl _ _).alloc (Nat.le_refl _) _⟩
theorem te_begins (w : World) : Calls Tryd.prog 26 #[] w fun e w' => e = .returned (.bool true) ∧ Below w.heap.size w w' := by
  obtain ⟨u, hu⟩ : ∃ u, Oc.sumN (ByteArray.mk #[97]).data.toList = u := ⟨_, rfl⟩
  obtain ⟨v, hv⟩ : ∃ v, Oc.sumN (ByteArray.mk #[98]).data.toList = v := ⟨_, rfl⟩
  have hne : ((u : Int) != (v : Int)) = true := by
    rw [bne_iff_ne]
    intro e
    have h1 : ¬ Oc.sumN (ByteArray.mk #[97]).data.toList = Oc.sumN (ByteArray.mk #[98]).data.toList := by decide +kernel
    omega
  have HU := Lib.hid hu
  have HV := Lib.hid hv
  have HT := Lib.hid (show bs (eT ⟨#[97, 98]⟩) = ⟨#[0, 2, 97, 98]⟩ by decide +kernel)
  have HW := Lib.hid (show wdT ⟨#[97, 32, 98]⟩ = ⟨#[97, 37, 50, 48, 98]⟩ by decide +kernel)
  have HZ := Lib.hid (show Oc.sumN (ByteArray.mk #[]).data.toList = 0 by decide +kernel)
  clear hu hv
  go_enter Tryd.func26, Tryd.ntmps26
  go_wp2_with fail
  refine (te_text _ _ HT.out (by decide) _).mono ?_
  rintro e w1 ⟨rfl, B1⟩
  go_wp2_with fail
  refine (te_sum _ _ HZ.out (by decide) _).mono ?_
  rintro e w2 ⟨rfl, hb⟩
  have B2 := below_to B1 hb
  clear hb
  go_wp2_with fail
  refine (te_sum _ _ HU.out (by decide) _).mono ?_
  rintro e w3 ⟨rfl, hb⟩
  have B3 := below_to B2 hb
  clear hb
  go_wp2_with fail
  refine (te_sum _ _ HV.out (by decide) _).mono ?_
  rintro e w4 ⟨rfl, hb⟩
  have B4 := below_to B3 hb
  clear hb
  go_wp2_with fail
  refine (te_word _ _ HW.out (by decide) _).mono ?_
  rintro e w5 ⟨rfl, hb⟩
  have B5 := below_to B4 hb
  clear hb
  go_wp2_with fail
  go_ret
  exact ⟨rfl, B5⟩
end Go.Proofs.YtgbnmokajaehhaaDoor
