/- Contracts: Take; Spans, the reference's Spans. -/
import Derived.Test.YtbgpkddobnldlaaB9
import Derived.OwnWalk
namespace Go.Proofs.Ytbgpkddobnldlaa
open Go.RowKit
/-- The bitmap that Take answers. -/
def takeB (l : List UInt8) (a b k : Int) : List UInt8 := if (lowF l a b k).2 = 0 then setsL l true (lowF l a b k).1 else []
/-- Pages, a bitmap and an error are answered. -/
def TakeRet (w : World) (l : List Nat) (b : List UInt8) (err : Int) (e : Ending) (w' : World) : Prop := ∃ a c, e = .returned (.tuple #[.slice a l.length c, .string (bs b), .int .i64 err]) ∧ Ints w' a l.length (zsOf l) ∧ Below w.heap.size w w'
theorem take_no (s : ByteArray) (a b k : Int) (w : World) (h : ¬ (s.size = 480 ∧ 0 ≤ k ∧ 0 ≤ a ∧ a ≤ b ∧ b ≤ 3840)) : Calls Try.prog 15 #[.string s, .int .i64 a, .int .i64 b, .int .i64 k] w fun e w' => e = .returned (.tuple #[.slice none 0 0, .string ⟨#[]⟩, .int .i64 18]) ∧ w = w' := by
  have H := Lib.hid h
  clear h
  go_enter Try.func15, Try.ntmps15
  go_wp2_with (go_at_call 13; refine (low_no _ _ _ _ _ H.out).mono ?_; rintro e w' ⟨rfl, rfl⟩)
  go_ret3
  exact ⟨rfl, rfl⟩
theorem lowF_mem (l : List UInt8) (a b k : Nat) (h : l.length = 480) (hab : a ≤ b) (hb : b ≤ 3840) : ∀ x ∈ (lowF l (a : Int) (b : Int) (k : Int)).1, a ≤ x ∧ x < b ∧ bitL l x = false := by
  intro x hx
  rw [inB_yes l a b k h hab hb] at hx
  split at hx
  · simp at hx
  · exact (freeN_mem l a b x).1 (List.mem_of_mem_take hx)
theorem lowF_err (l : List UInt8) (a b k : Int) : (lowF l a b k).2 ≠ 0 → (lowF l a b k).1 = [] := by
  unfold lowF
  split
  · split
    · intro _; rfl
    · intro h; exact absurd rfl h
  · intro _; rfl
theorem zsOf_mem (l : List Nat) (n : Nat) (h : ∀ x ∈ l, x < n) : ∀ z ∈ zsOf l, 0 ≤ z ∧ z < (n : Int) := by
  intro z hz
  unfold zsOf at hz
  obtain ⟨x, hx, rfl⟩ := List.mem_map.1 hz
  have := h x hx
  constructor
  · exact Int.natCast_nonneg x
  · show (x : Int) < n; omega
theorem lowF_len (l : List UInt8) (a b k : Nat) (h : l.length = 480) (hab : a ≤ b) (hb : b ≤ 3840) : (lowF l (a : Int) (b : Int) (k : Int)).1.length ≤ 3840 := by
  rw [inB_yes l a b k h hab hb]
  split
  · simp
  · have h1 := freeN_len l a b
    simp only [List.length_take]; omega
set_option maxRecDepth 100000 in
theorem take_yes (s : ByteArray) (a b k : Nat) (w : World) (hs : s.size = 480) (hab : a ≤ b) (hb : b ≤ 3840) (hk : k < 9223372036854775808) :
    Calls Try.prog 15 #[.string s, .int .i64 (a : Int), .int .i64 (b : Int), .int .i64 (k : Int)] w fun e w' => TakeRet w (lowF s.data.toList (a : Int) (b : Int) (k : Int)).1 (takeB s.data.toList (a : Int) (b : Int) (k : Int)) (lowF s.data.toList (a : Int) (b : Int) (k : Int)).2 e w' := by
  have hln : s.data.toList.length = 480 := by rw [← blen]; exact hs
  have hm := lowF_mem s.data.toList a b k hln hab hb
  have hlen := lowF_len s.data.toList a b k hln hab hb
  have hL := low_yes s a b k w hs hab hb hk
  have hER := lowF_err s.data.toList (a : Int) (b : Int) (k : Int)
  have hT : ∃ t, takeB s.data.toList (a : Int) (b : Int) (k : Int) = t := ⟨_, rfl⟩
  obtain ⟨t, ht⟩ := hT
  rw [ht]
  have HT : Hid ((if (lowF s.data.toList (a : Int) (b : Int) (k : Int)).2 = 0 then setsL s.data.toList true (lowF s.data.toList (a : Int) (b : Int) (k : Int)).1 else []) = t) := Lib.hid ht
  obtain ⟨fl, fe, hf⟩ : ∃ fl fe, lowF s.data.toList (a : Int) (b : Int) (k : Int) = (fl, fe) := ⟨_, _, rfl⟩
  rw [hf] at hm hL HT hlen hER ⊢
  have HER : Hid (fe ≠ 0 → fl = []) := Lib.hid hER
  have HM := Lib.hid hm
  have HL := Lib.hid hL
  have HS := Lib.hid hs
  have HLE := Lib.hid hlen
  clear hm hL hs ht hf hln hlen hER
  go_enter Try.func15, Try.ntmps15
  go_wp2_with fail
  refine HL.out.mono ?_
  rintro e w1 ⟨ra, rc, rfl, hI, hB⟩
  by_cases he : fe = 0
  · subst he
    have h2 : setsL s.data.toList true fl = t := by have := HT.out; rwa [if_pos rfl] at this
    have H2 := Lib.hid h2
    clear h2
    go_wp2_with fail
    refine (set_any s true ra fl.length rc (zsOf fl) _ HS.out hI (by have := HLE.out; omega) (fun z hz => by have := zsOf_mem fl 3840 (fun x hx => by have := HM.out x hx; omega) z hz; omega)).mono ?_
    rintro e w2 ⟨rfl, hb2⟩
    rw [zsOf_toNat, H2.out]
    have hI2 := hI.below hb2
    have hB2 := below_to hB hb2
    clear hb2
    go_wp2_with fail
    go_ret3
    exact ⟨ra, rc, rfl, hI2, hB2⟩
  · have h2 : [] = t := by have := HT.out; rwa [if_neg he] at this
    have hne : (fe != 0) = true := by rw [bne_iff_ne]; exact he
    subst h2
    have hfl : fl = [] := HER.out he
    clear he
    go_wp2_with fail
    go_ret3
    subst hfl
    exact ⟨none, 0, rfl, ⟨rfl, .inl rfl⟩, hB⟩
theorem info40 : (Try.prog.info? 40).map (fun i => (i.zero, i.size, i.bytes)) = some (some (.agg #[.int .i64 0, .int .i64 0]), 2, 16) := by kernel_rfl
/-- Pairs, cell by cell. -/
def pairC (x : Nat × Nat) : List Value := [intV x.1, intV x.2]
def flatP (l : List (Nat × Nat)) : List Value := l.flatMap pairC
theorem flatP_snoc (l : List (Nat × Nat)) (x : Nat × Nat) : flatP (l ++ [x]) = flatP l ++ pairC x := by simp [flatP]
theorem flatP_length (l : List (Nat × Nat)) : (flatP l).length = l.length * 2 := by
  induction l with
  | nil => rfl
  | cons a l ih => simp [flatP, pairC] at *; omega
theorem flatP_get (L : List (Nat × Nat)) (j : Nat) (h : j < L.length) : (flatP L)[j * 2]? = some (intV L[j].1) ∧ (flatP L)[j * 2 + 1]? = some (intV L[j].2) := by
  induction L generalizing j with
  | nil => simp at h
  | cons a l ih =>
    cases j with
    | zero => simp [flatP, pairC]
    | succ j =>
      have := ih j (by simpa using h)
      rw [show (j + 1) * 2 = j * 2 + 2 by omega, show j * 2 + 2 + 1 = j * 2 + 1 + 2 by omega]
      simp only [flatP, List.flatMap_cons, pairC, List.cons_append, List.nil_append, List.getElem?_cons_succ, List.getElem_cons_succ]
      exact this
/-- A slice of pairs. -/
def Prs (w : World) (a : Option Addr) (ps : List (Nat × Nat)) : Prop :=
  ps.length = 0 ∨ ∃ b, a = some ⟨b, 0, none⟩ ∧ b < w.heap.size ∧ ∀ j (hj : j < ps.length), w.cell? ⟨b, j * 2, none⟩ = some (intV ps[j].1) ∧ w.cell? ⟨b, j * 2 + 1, none⟩ = some (intV ps[j].2)
theorem Prs.below {w w1 : World} {a : Option Addr} {ps : List (Nat × Nat)} (h : Prs w a ps) (B : Below w.heap.size w w1) : Prs w1 a ps := by
  rcases h with h0 | ⟨b, ha, hb, hc⟩
  · exact .inl h0
  · exact .inr ⟨b, ha, Nat.lt_of_lt_of_le hb B.size, fun j hj => ⟨(B.cell (p := ⟨b, j * 2, none⟩) hb).trans (hc j hj).1, (B.cell (p := ⟨b, j * 2 + 1, none⟩) hb).trans (hc j hj).2⟩⟩
theorem RowOf.prs {w0 wr : World} {v : Value} {n : Nat} {l : List (Nat × Nat)} (h : RowOf w0 40 2 v n (flatP l) wr) : ∃ a c, v = .slice a l.length c ∧ Prs wr a l := by
  have hc := @World.ownsRow.cells _ _ _ _ _ _ _ h.own
  have hl : l.length = n := by have := h.own.1; rw [flatP_length] at this; omega
  rcases h.own.2 with ⟨rfl, hn⟩ | ⟨g, cap, cur, rfl, hb, hg, hcap, _⟩
  · exact ⟨none, 0, by rw [hl, hn], .inl (by omega)⟩
  · refine ⟨_, cap, by rw [hl], .inr ⟨g, rfl, (Array.getElem?_eq_some_iff.1 hg).1, fun j hj => ?_⟩⟩
    have h1 := hc rfl (j * 2) _ (flatP_get l j hj).1
    have h2 := hc rfl (j * 2 + 1) _ (flatP_get l j hj).2
    rw [add_nil] at h1 h2
    exact ⟨h1, h2⟩
theorem pair_cells (w : World) (x : Nat × Nat) (T : TypeId) : ∀ j u, (pairC x)[j]? = some u → (w.alloc (.cells (pairC x).toArray T)).cell? ((⟨w.heap.size, 0, none⟩ : Addr).add j) = some u := by
  intro j u hj
  have hl : j < 2 := by have := (List.getElem?_eq_some_iff.1 hj).1; simpa [pairC] using this
  rw [add_nil]
  simpa [go_sem] using hj
theorem pair_one (x : Nat × Nat) : ∀ u ∈ pairC x, u.oneCell' = true := by
  intro u hu
  simp [pairC, intV] at hu
  rcases hu with rfl | rfl <;> rfl
/-- Pairs are answered. -/
def SpRet (w : World) (l : List (Nat × Nat)) (e : Ending) (w' : World) : Prop := ∃ a c, e = .returned (.slice a l.length c) ∧ Prs w' a l ∧ Below w.heap.size w w'
theorem spans_no (s : ByteArray) (a b : Int) (w : World) (h : ¬ (s.size = 480 ∧ 0 ≤ a ∧ a ≤ b ∧ b ≤ 3840)) : Calls Try.prog 20 #[.string s, .int .i64 a, .int .i64 b] w fun e w' => e = .returned (.slice none 0 0) ∧ w = w' := by
  by_cases hs : s.size = 480
  · have HS := Lib.hid hs
    have HR := Lib.hid (show ¬ (0 ≤ a ∧ a ≤ b ∧ b ≤ 3840) by omega)
    clear h hs
    go_enter Try.func20, Try.ntmps20
    go_wp2_with (first | (go_at_call 22; refine (isBitmap_yes _ _ HS.out).mono ?_; rintro e w' ⟨rfl, rfl⟩) | (go_at_call 26; refine (isRange_no _ _ _ HR.out).mono ?_; rintro e w' ⟨rfl, rfl⟩))
    go_ret
    exact ⟨rfl, rfl⟩
  · have HS := Lib.hid hs
    clear h hs
    go_enter Try.func20, Try.ntmps20
    go_wp2_with (first | (go_at_call 22; refine (isBitmap_no _ _ HS.out).mono ?_; rintro e w' ⟨rfl, rfl⟩))
    go_ret
    exact ⟨rfl, rfl⟩
set_option maxRecDepth 100000 in
set_option maxHeartbeats 1000000 in
theorem spans_yes (s : ByteArray) (a b : Nat) (w : World) (hs : s.size = 480) (hab : a ≤ b) (hb : b ≤ 3840) :
    Calls Try.prog 20 #[.string s, .int .i64 (a : Int), .int .i64 (b : Int)] w fun e w' => SpRet w (spS s.data.toList b a) e w' := by
  obtain ⟨i0, hi0, hz0, hz1, hz2⟩ := info_parts info40
  have HS := Lib.hid hs
  have HLN := Lib.hid (show s.data.toList.length = 480 by rw [← blen]; exact hs)
  clear hs
  go_enter Try.func20, Try.ntmps20
  go_wp2_with (first | (go_at_call 22; refine (isBitmap_yes _ _ HS.out).mono ?_; rintro e w' ⟨rfl, rfl⟩) | (go_at_call 26; refine (isRange_yes _ _ _ (by omega) (by omega) (by omega)).mono ?_; rintro e w' ⟨rfl, rfl⟩))
  refine (freeIn_any s _).mono ?_
  rintro e w1 ⟨rfl, hcl, B1, hsz⟩
  have HCL := Lib.hid hcl
  clear hcl
  go_wp2_with fail
  go_loopw [8, 9] (fun v j wx => ∃ (i n : Nat) (ps : List (Nat × Nat)), a ≤ i ∧ i ≤ b + 1 ∧ n ≤ i ∧ Hid (ps ++ spS s.data.toList b i = spS s.data.toList b a) ∧ RowOf w1 40 2 v n (flatP ps) wx ∧ j = .int .i64 (i : Int)) (fun _ j _ => b + 1 - (intOf j).toNat)
  case atStart => exact ⟨a, 0, [], by omega, by omega, by omega, Lib.hid (by simp), RowOf.start _ _ _, rfl⟩
  case round =>
    obtain ⟨i, n, ps, hai, hib, hn, HP, HR, rfl⟩ := hrel
    by_cases hib2 : i < b
    · have hcw : wr.cell? ⟨w.heap.size, 0, none⟩ = some (.string s) := (HR.below.cell (p := ⟨w.heap.size, 0, none⟩) hsz).trans HCL.out
      have hub := used_bit s.data.toList HLN.out i (by omega)
      cases hu : bitL s.data.toList i with
      | true =>
        have HF := Lib.hid (fun (w1 : World) h => free_any s (i : Int) w.heap.size true w1 h (by rw [hub, hu]))
        have HE := Lib.hid (spS_used s.data.toList b i hib2 hu)
        clear hub hu
        go_wp2_with fail
        refine (HF.out _ hcw).mono ?_
        rintro e w2 ⟨rfl, hb2⟩
        have HR2 := HR.later hb2
        clear hb2 hcw
        go_wp2_with fail
        go_roundw
        case rel => exact ⟨i + 1, n, ps, by omega, by omega, by omega, Lib.hid (by rw [← HE.out]; exact HP.out), HR2, by go_num⟩
        case measure => simp [intOf]; omega
      | false =>
        have HF := Lib.hid (fun (w1 : World) h => free_any s (i : Int) w.heap.size false w1 h (by rw [hub, hu]))
        have HE := Lib.hid (spS_free s.data.toList b i hib2 hu)
        clear hub hu
        go_wp2_with fail
        refine (HF.out _ hcw).mono ?_
        rintro e w2 ⟨rfl, hb2⟩
        have HR2 := HR.later hb2
        clear hb2 hcw
        go_wp2_with fail
        go_loopw [9] (fun j wx => ∃ (x : Nat), i ≤ x ∧ x ≤ b ∧ Hid (endS s.data.toList b x = endS s.data.toList b i) ∧ RowOf w1 40 2 u8 n (flatP ps) wx ∧ j = .int .i64 (x : Int)) (fun j _ => b - (intOf j).toNat)
        case atStart => exact ⟨i, by omega, by omega, Lib.hid rfl, HR2, rfl⟩
        case round =>
          obtain ⟨x, hix, hxb, HX, HR3, rfl⟩ := hrel
          by_cases hxb2 : x < b
          · have hcw : wr.cell? ⟨w.heap.size, 0, none⟩ = some (.string s) := (HR3.below.cell (p := ⟨w.heap.size, 0, none⟩) hsz).trans HCL.out
            have hub := used_bit s.data.toList HLN.out x (by omega)
            cases hu : bitL s.data.toList x with
            | true =>
              have HF := Lib.hid (fun (w1 : World) h => free_any s (x : Int) w.heap.size true w1 h (by rw [hub, hu]))
              have HEN := Lib.hid (endS_stop s.data.toList b x (by rw [hu]; simp))
              clear hub hu
              go_wp2_with fail
              refine (HF.out _ hcw).mono ?_
              rintro e w3 ⟨rfl, hb3⟩
              have HR4 := HR3.later hb3
              clear hb3 hcw
              go_wp2_with (at_builtin; refine wpList_append_own _ rfl _ _ 38 rfl w1.heap.size 40 i0 (.agg #[.int .i64 0, .int .i64 0]) 2 16 Try.underlying38 hi0 hz0 hz1 hz2 rfl (by decide) _ _ _ rfl (HR4.own.alloc _) ⟨w3.heap.size, 0, none⟩ 1 1 (pairC (i, x)) rfl ?d1 ?d2 ?d3 ?d4 ?d5 ?d6 ?_)
              case d1 => rfl
              case d2 => exact pair_cells w3 (i, x) 40
              case d3 => exact pair_one _
              case d4 => unfold maxLen; omega
              case d5 => omega
              case d6 => have := HR4.below.size; simp; omega
              intro v2 w5 hown2 hgrow2 hnil2
              have HR5 := HR4.snoc hown2 hgrow2
              go_wp2_with fail
              go_roundw
              case rel =>
                refine ⟨x + 1, n + 1, ps ++ [(i, x)], by omega, by omega, by omega, Lib.hid ?_, by rw [flatP_snoc]; exact HR5, by go_num⟩
                have h1 := HE.out
                rw [← HX.out, HEN.out] at h1
                rw [← HP.out, h1, List.append_assoc]
                rfl
              case measure => simp [intOf]; omega
            | false =>
              have HF := Lib.hid (fun (w1 : World) h => free_any s (x : Int) w.heap.size false w1 h (by rw [hub, hu]))
              have HEN := Lib.hid (endS_step s.data.toList b x hxb2 hu)
              clear hub hu
              go_wp2_with fail
              refine (HF.out _ hcw).mono ?_
              rintro e w3 ⟨rfl, hb3⟩
              have HR4 := HR3.later hb3
              clear hb3 hcw
              go_wp2_with fail
              go_roundw
              case rel => exact ⟨x + 1, by omega, by omega, Lib.hid (by rw [← HEN.out]; exact HX.out), HR4, by go_num⟩
              case measure => simp [intOf]; omega
          · obtain rfl : x = b := by omega
            have HEN := Lib.hid (endS_stop s.data.toList x x (by simp))
            have HR4 := HR3
            go_wp2_with (at_builtin; refine wpList_append_own _ rfl _ _ 38 rfl w1.heap.size 40 i0 (.agg #[.int .i64 0, .int .i64 0]) 2 16 Try.underlying38 hi0 hz0 hz1 hz2 rfl (by decide) _ _ _ rfl (HR4.own.alloc _) ⟨wr.heap.size, 0, none⟩ 1 1 (pairC (i, x)) rfl ?d1 ?d2 ?d3 ?d4 ?d5 ?d6 ?_)
            case d1 => rfl
            case d2 => exact pair_cells wr (i, x) 40
            case d3 => exact pair_one _
            case d4 => unfold maxLen; omega
            case d5 => omega
            case d6 => have := HR4.below.size; simp; omega
            intro v2 w5 hown2 hgrow2 hnil2
            have HR5 := HR4.snoc hown2 hgrow2
            go_wp2_with fail
            go_roundw
            case rel =>
              refine ⟨x + 1, n + 1, ps ++ [(i, x)], by omega, by omega, by omega, Lib.hid ?_, by rw [flatP_snoc]; exact HR5, by go_num⟩
              have h1 := HE.out
              rw [← HX.out, HEN.out] at h1
              rw [← HP.out, h1, List.append_assoc]
              rfl
            case measure => simp [intOf]; omega
    · have hp : ps = spS s.data.toList b a := by rw [← HP.out, spS_end _ _ _ (by omega), List.append_nil]
      obtain ⟨ra, rc, hv, hP⟩ := HR.prs
      subst hv
      have HPP := Lib.hid hp
      have HB := below_to B1 HR.below
      clear hp
      go_wp2_with fail
      go_ret
      exact ⟨ra, rc, by rw [← HPP.out]; rfl, by rw [← HPP.out]; exact hP, HB⟩
end Go.Proofs.Ytbgpkddobnldlaa
