/- Contracts: Lowest, Take; the reference's Free, Lowest. -/
import Derived.Test.YtbgpkddobnldlaaB7
namespace Go.Proofs.Ytbgpkddobnldlaa
open Go.RowKit
theorem info3 : (Try.prog.info? 3).map (fun i => (i.zero, i.size, i.bytes)) = some (some (.int .i64 0), 1, 8) := by kernel_rfl
theorem add_nil (b n : Nat) : Addr.add ⟨b, 0, none⟩ n = ⟨b, n, none⟩ := by
  unfold Addr.add
  by_cases h : n = 0
  · subst h; simp
  · simp [h]
/-- A row that a call builds, in blocks that are new since w0. -/
structure RowOf (w0 : World) (T sz : Nat) (v : Value) (n : Nat) (xs : List Value) (wx : World) : Prop where
  own : wx.ownsRow w0.heap.size T sz v n xs
  below : Below w0.heap.size w0 wx
section
variable {w0 wr w1 : World} {T sz n : Nat} {v v' : Value} {xs : List Value}
theorem own_below {b : Nat} (h : wr.ownsRow b T sz v n xs) (B : Below wr.heap.size wr w1) : w1.ownsRow b T sz v n xs := by
  refine ⟨h.1, ?_⟩
  rcases h.2 with hn | ⟨g, cap, cur, hv, h1, h2, h3⟩
  · exact .inl hn
  · exact .inr ⟨g, cap, cur, hv, h1, (B.block g (Array.getElem?_eq_some_iff.1 h2).1).trans h2, h3⟩
theorem RowOf.start (w : World) (T sz : Nat) : RowOf w T sz (.slice none 0 0) 0 [] w := ⟨World.ownsRow_nil _ _ _ _, Below.refl _ _⟩
theorem RowOf.fresh (w : World) (T sz : Nat) : RowOf w T sz (.slice (some ⟨w.heap.size, 0, none⟩) 0 0) 0 [] (w.alloc (.cells #[] T)) :=
  ⟨World.ownsRow_made w #[] 0 (Nat.le_refl _) (by decide) (by simp), (Below.refl _ _).alloc (Nat.le_refl _) _⟩
theorem RowOf.later (h : RowOf w0 T sz v n xs wr) (B : Below wr.heap.size wr w1) : RowOf w0 T sz v n xs w1 := ⟨own_below h.own B, below_to h.below B⟩
theorem RowOf.snoc {m : Nat} {ys : List Value} {o : Obj} (h : RowOf w0 T sz v n xs wr) (hown : w1.ownsRow w0.heap.size T sz v' (n + m) (xs ++ ys)) (hg : (wr.alloc o).grownBy w1 v.ownBlock) : RowOf w0 T sz v' (n + m) (xs ++ ys) w1 :=
  ⟨hown, (h.below.alloc h.below.size o).grown hg (by have := h.below.size; simp; omega) (fun j hj => (h.own.lt j hj).1)⟩
theorem RowOf.form0 (h : RowOf w0 T sz v n xs wr) : ∃ a c, v = .slice a n c := by
  rcases h.own.2 with ⟨rfl, hn⟩ | ⟨g, cap, cur, rfl, _⟩
  · exact ⟨none, 0, by rw [hn]⟩
  · exact ⟨_, _, rfl⟩
end
def intV (i : Nat) : Value := .int .i64 (i : Int)
def zsOf (l : List Nat) : List Int := l.map Int.ofNat
theorem zsOf_length (l : List Nat) : (zsOf l).length = l.length := by simp [zsOf]
theorem zsOf_toNat (l : List Nat) : (zsOf l).map Int.toNat = l := by
  unfold zsOf; rw [List.map_map]; conv => rhs; rw [← List.map_id l]
  congr 1
theorem RowOf.ints {w0 wr : World} {v : Value} {n : Nat} {l : List Nat} (h : RowOf w0 3 1 v n (l.map intV) wr) : ∃ a c, v = .slice a n c ∧ Ints wr a n (zsOf l) ∧ l.length = n ∧ n ≤ c := by
  have hc := @World.ownsRow.cells _ _ _ _ _ _ _ h.own
  have hl : l.length = n := by have := h.own.1; simp at this; omega
  rcases h.own.2 with ⟨rfl, hn⟩ | ⟨g, cap, cur, rfl, hb, hg, hcap, _⟩
  · exact ⟨none, 0, by rw [hn], ⟨by rw [zsOf_length, hl], .inl hn⟩, hl, by omega⟩
  · refine ⟨_, _, rfl, ⟨by rw [zsOf_length, hl], .inr ⟨g, 0, rfl, (Array.getElem?_eq_some_iff.1 hg).1, fun j hj => ?_⟩⟩, hl, hcap⟩
    have hj2 : j < l.length := by omega
    have := hc rfl j (intV l[j]) (by rw [List.getElem?_map, List.getElem?_eq_getElem hj2]; rfl)
    rw [add_nil] at this
    rw [Nat.zero_add, this, List.getD_eq_getElem?_getD, zsOf, List.getElem?_map, List.getElem?_eq_getElem hj2]
    rfl
/-- Pages and an error are answered. -/
def LowRet (w : World) (l : List Nat) (err : Int) (e : Ending) (w' : World) : Prop := ∃ a c, e = .returned (.tuple #[.slice a l.length c, .int .i64 err]) ∧ Ints w' a l.length (zsOf l) ∧ Below w.heap.size w w'
theorem inB_no (l : List UInt8) (a b k : Int) (h : ¬ (l.length = 480 ∧ 0 ≤ k ∧ 0 ≤ a ∧ a ≤ b ∧ b ≤ 3840)) : lowF l a b k = ([], 18) := by
  unfold lowF; rw [if_neg (by unfold inB; simpa using h)]
theorem inB_yes (l : List UInt8) (a b k : Nat) (h : l.length = 480) (hab : a ≤ b) (hb : b ≤ 3840) : lowF l (a : Int) (b : Int) (k : Int) = if (freeN l a b).length < k then ([], 13) else ((freeN l a b).take k, 0) := by
  unfold lowF; rw [if_pos (by unfold inB; rw [decide_eq_true_iff]; exact ⟨h, by omega, by omega, by omega, by omega⟩)]
  simp only [Int.toNat_natCast, Int.ofNat_lt]
theorem low_no (s : ByteArray) (a b k : Int) (w : World) (h : ¬ (s.size = 480 ∧ 0 ≤ k ∧ 0 ≤ a ∧ a ≤ b ∧ b ≤ 3840)) : Calls Try.prog 13 #[.string s, .int .i64 a, .int .i64 b, .int .i64 k] w fun e w' => e = .returned (.tuple #[.slice none 0 0, .int .i64 18]) ∧ w = w' := by
  by_cases hs : s.size = 480
  · have HS := Lib.hid hs
    by_cases hk : k < 0
    · clear h hs
      go_enter Try.func13, Try.ntmps13
      go_wp2_with (first | (go_at_call 22; refine (isBitmap_yes _ _ HS.out).mono ?_; rintro e w' ⟨rfl, rfl⟩))
      go_ret2
      exact ⟨rfl, rfl⟩
    · have HR := Lib.hid (show ¬ (0 ≤ a ∧ a ≤ b ∧ b ≤ 3840) by omega)
      clear h hs
      go_enter Try.func13, Try.ntmps13
      go_wp2_with (first | (go_at_call 22; refine (isBitmap_yes _ _ HS.out).mono ?_; rintro e w' ⟨rfl, rfl⟩) | (go_at_call 26; refine (isRange_no _ _ _ HR.out).mono ?_; rintro e w' ⟨rfl, rfl⟩))
      go_ret2
      exact ⟨rfl, rfl⟩
  · have HS := Lib.hid hs
    clear h hs
    go_enter Try.func13, Try.ntmps13
    go_wp2_with (first | (go_at_call 22; refine (isBitmap_no _ _ HS.out).mono ?_; rintro e w' ⟨rfl, rfl⟩))
    go_ret2
    exact ⟨rfl, rfl⟩
theorem low_end (l : List UInt8) (a b i k : Nat) (hai : a ≤ i) (hib : i ≤ b) (hk : (freeN l a i).length ≤ k) (hend : i = b ∨ (freeN l a i).length = k) (h : l.length = 480) (hb : b ≤ 3840) :
    lowF l (a : Int) (b : Int) (k : Int) = if (freeN l a i).length < k then ([], 13) else (freeN l a i, 0) := by
  rw [inB_yes l a b k h (by omega) hb, freeN_split l a i b hai hib]
  rcases hend with rfl | he
  · rw [freeN_nil, List.append_nil]
    by_cases h1 : (freeN l a i).length < k
    · rw [if_pos h1, if_pos h1]
    · rw [if_neg h1, if_neg h1, List.take_of_length_le (by omega)]
  · rw [if_neg (by rw [List.length_append]; omega), if_neg (by omega), ← he, List.take_left]
set_option maxRecDepth 100000 in
set_option maxHeartbeats 1000000 in
theorem low_yes (s : ByteArray) (a b k : Nat) (w : World) (hs : s.size = 480) (hab : a ≤ b) (hb : b ≤ 3840) (hk : k < 9223372036854775808) :
    Calls Try.prog 13 #[.string s, .int .i64 (a : Int), .int .i64 (b : Int), .int .i64 (k : Int)] w fun e w' => LowRet w (lowF s.data.toList (a : Int) (b : Int) (k : Int)).1 (lowF s.data.toList (a : Int) (b : Int) (k : Int)).2 e w' := by
  obtain ⟨i0, hi0, hz0, hz1, hz2⟩ := info_parts info3
  have HS := Lib.hid hs
  have HLN := Lib.hid (show s.data.toList.length = 480 by rw [← blen]; exact hs)
  clear hs
  go_enter Try.func13, Try.ntmps13
  go_wp2_with (first | (go_at_call 22; refine (isBitmap_yes _ _ HS.out).mono ?_; rintro e w' ⟨rfl, rfl⟩) | (go_at_call 26; refine (isRange_yes _ _ _ (by omega) (by omega) (by omega)).mono ?_; rintro e w' ⟨rfl, rfl⟩))
  refine (freeIn_any s _).mono ?_
  rintro e w1 ⟨rfl, hcl, B1, hsz⟩
  have HCL := Lib.hid hcl
  clear hcl
  go_wp2_with fail
  go_loopw [11, 12] (fun v j wx => ∃ (i n : Nat), a ≤ i ∧ i ≤ b ∧ n ≤ k ∧ n ≤ 3840 ∧ Hid ((freeN s.data.toList a i).length = n) ∧ RowOf w1 3 1 v n ((freeN s.data.toList a i).map intV) wx ∧ j = .int .i64 (i : Int)) (fun _ j _ => b - (intOf j).toNat)
  case atStart => exact ⟨a, 0, by omega, by omega, by omega, by omega, Lib.hid (by rw [freeN_nil]; rfl), by rw [freeN_nil]; exact RowOf.start _ _ _, rfl⟩
  case round =>
    obtain ⟨i, n, hai, hib, hnk, hn, HN, HR, rfl⟩ := hrel
    obtain ⟨va, vc, hv⟩ := HR.form0
    by_cases hib2 : i < b
    · by_cases hnk2 : n < k
      · have hcw : wr.cell? ⟨w.heap.size, 0, none⟩ = some (.string s) := (HR.below.cell (p := ⟨w.heap.size, 0, none⟩) hsz).trans HCL.out
        have hub := used_bit s.data.toList HLN.out i (by omega)
        subst hv
        cases hu : bitL s.data.toList i with
        | true =>
          have HF := Lib.hid (fun (w1 : World) h => free_any s (i : Int) w.heap.size true w1 h (by rw [hub, hu]))
          have HE := Lib.hid (freeN_used s.data.toList a i hai hu)
          clear hub hu
          go_wp2_with fail
          refine (HF.out _ hcw).mono ?_
          rintro e w2 ⟨rfl, hb2⟩
          have HR2 := HR.later hb2
          clear hb2 hcw
          go_wp2_with fail
          go_roundw
          case rel => exact ⟨i + 1, n, by omega, by omega, by omega, by omega, Lib.hid (by rw [HE.out, HN.out]), by rw [HE.out]; exact HR2, by go_num⟩
          case measure => simp [intOf]; omega
        | false =>
          have HF := Lib.hid (fun (w1 : World) h => free_any s (i : Int) w.heap.size false w1 h (by rw [hub, hu]))
          have HE := Lib.hid (freeN_free s.data.toList a i hai hu)
          have hn2 : n < 3840 := by
            have h1 := freeN_len s.data.toList a i
            rw [HN.out] at h1
            omega
          clear hub hu
          go_wp2_with fail
          refine (HF.out _ hcw).mono ?_
          rintro e w2 ⟨rfl, hb2⟩
          have HR2 := HR.later hb2
          clear hb2 hcw
          go_wp2_with (at_builtin; refine wpList_append_own _ rfl _ _ 29 rfl w1.heap.size 3 i0 (.int .i64 0) 1 8 Try.underlying29 hi0 hz0 hz1 hz2 rfl (by decide) _ _ _ rfl (HR2.own.alloc _) ⟨w2.heap.size, 0, none⟩ 1 1 [intV i] rfl ?d1 ?d2 ?d3 ?d4 ?d5 ?d6 ?_)
          case d1 => rfl
          case d2 =>
            intro j u hj
            match j, hj with
            | 0, hj => simp at hj; subst hj; simp [Addr.add, go_sem, intV]
          case d3 => intro u hu; simp at hu; subst hu; rfl
          case d4 => unfold maxLen; omega
          case d5 => omega
          case d6 => have := HR2.below.size; simp; omega
          intro v2 w3 hown2 hgrow2 hnil2
          have HR3 := HR2.snoc hown2 hgrow2
          go_wp2_with fail
          go_roundw
          case rel => exact ⟨i + 1, n + 1, by omega, by omega, by omega, by omega, Lib.hid (by rw [HE.out, List.length_append, HN.out]; rfl), by rw [HE.out, List.map_append]; exact HR3, by go_num⟩
          case measure => simp [intOf]; omega
      · obtain rfl : n = k := by omega
        have HL := Lib.hid (low_end s.data.toList a b i n hai (by omega) (by rw [HN.out]; omega) (.inr HN.out) HLN.out hb)
        obtain ⟨ra, rc, rfl, hrI, hrl, _⟩ := HR.ints
        have HB := below_to B1 HR.below
        clear hv
        go_wp2_with fail
        go_ret2
        refine ⟨ra, rc, ?_, ?_, HB⟩
        · rw [HL.out, if_neg (by omega), HN.out]; rfl
        · rw [HL.out, if_neg (by omega), hrl]; exact hrI
    · obtain rfl : i = b := by omega
      have HL := Lib.hid (low_end s.data.toList a i i k hai (by omega) (by rw [HN.out]; omega) (.inl rfl) HLN.out hb)
      obtain ⟨ra, rc, rfl, hrI, hrl, _⟩ := HR.ints
      have HB := below_to B1 HR.below
      clear hv
      by_cases hnk2 : n < k
      · go_wp2_with fail
        go_ret2
        refine ⟨none, 0, ?_, ?_, HB⟩
        · rw [HL.out, if_pos (by omega)]; rfl
        · rw [HL.out, if_pos (by omega)]; exact ⟨rfl, .inl rfl⟩
      · go_wp2_with fail
        go_ret2
        refine ⟨ra, rc, ?_, ?_, HB⟩
        · rw [HL.out, if_neg (by omega), HN.out]; rfl
        · rw [HL.out, if_neg (by omega), hrl]; exact hrI
end Go.Proofs.Ytbgpkddobnldlaa
