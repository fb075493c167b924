/- Contracts: the reference's Word of any string, Line, Words. -/
import Derived.Test.YtgbnmokajaehhaaDoorNL
import Derived.Test.YtgbnmokajaehhaaDoorNH
namespace Go.Proofs.YtgbnmokajaehhaaDoor
open Go.RowKit Go.Sort
set_option linter.unusedVariables false
set_option maxRecDepth 100000
theorem rword_nil (w : World) : Calls Tryd.prog 12 #[.string ⟨#[]⟩] w fun e w' => e = .returned (.string ⟨#[37]⟩) ∧ w = w' := by
  go_enter Tryd.func12, Tryd.ntmps12
  go_wp2_with fail
  go_ret
  exact ⟨rfl, rfl⟩
theorem rword_all (s : ByteArray) (hs : s.size ≤ 1048576) (w : World) : Calls Tryd.prog 12 #[.string s] w fun e w' => e = .returned (.string (bs (wordS s.data.toList))) ∧ Below w.heap.size w w' := by
  by_cases h0 : 0 < s.size
  · have : wordS s.data.toList = wordL s.data.toList := by
      cases h : s.data.toList with
      | nil => rw [blen, h] at h0; simp at h0
      | cons c r => rfl
    rw [this]
    exact rword_any s h0 hs w
  · have e : s.data.toList = [] := by
      have : s.data.toList.length = 0 := by rw [← blen]; omega
      exact List.eq_nil_of_length_eq_zero this
    obtain rfl : s = ⟨#[]⟩ := str_eq e
    refine (rword_nil w).mono ?_
    rintro e w' ⟨rfl, rfl⟩
    exact ⟨rfl, Below.refl _ _⟩
theorem line_zero (a : Option Addr) (c : Nat) (w : World) : Calls Tryd.prog 16 #[.slice a 0 c] w fun e w' => e = .returned (.string ⟨#[]⟩) ∧ w = w' := by
  go_enter Tryd.func16, Tryd.ntmps16
  go_wp2_with fail
  refine (Tryd.strings_Join_none a c ⟨#[32]⟩ _).mono ?_
  rintro e w' ⟨rfl, rfl⟩
  go_wp2
  go_ret
  exact ⟨rfl, rfl⟩
def jn (ps : List ByteArray) : List UInt8 := Lib.join (ps.map (·.data.toList)) [32]
theorem jn_one (x : ByteArray) : jn [x] = x.data.toList := by unfold jn; exact Lib.join_one _ _
theorem jn_snoc (y : ByteArray) (r : List ByteArray) (x : ByteArray) : jn (y :: r ++ [x]) = jn (y :: r) ++ ([32] ++ x.data.toList) := by
  unfold jn
  simp only [List.cons_append, List.map_cons, List.map_append, List.map_nil]
  rw [Lib.join_cons, Lib.join_cons]
  simp [Lib.joinTail]
theorem jn_len (ps : List ByteArray) : (jn ps).length ≤ (ps.map (·.data.toList.length)).sum + ps.length := by
  have := join_len (ps.map (·.data.toList))
  rw [List.map_map, List.length_map] at this
  exact this
theorem sum_take (ps : List ByteArray) (k : Nat) : ((ps.take k).map (·.data.toList.length)).sum + (ps.take k).length ≤ (ps.map (·.data.toList.length)).sum + ps.length := by
  induction ps generalizing k with
  | nil => simp
  | cons x r ih =>
    cases k with
    | zero => simp
    | succ k => have := ih k; simp only [List.take_succ_cons, List.map_cons, List.sum_cons, List.length_cons]; omega
theorem jn_next (ps : List ByteArray) (k : Nat) (h : k < ps.length) (hk : 0 < k) : jn (ps.take (k + 1)) = jn (ps.take k) ++ ([32] ++ ps[k].data.toList) := by
  rw [List.take_add_one, List.getElem?_eq_getElem h]
  simp only [Option.toList_some]
  cases ht : ps.take k with
  | nil => have := congrArg List.length ht; rw [List.length_take, List.length_nil] at this; omega
  | cons y r => exact jn_snoc y r _
theorem bs_app (a b : List UInt8) : bs a ++ bs b = bs (a ++ b) := str_eq (by rw [toList_append, bs_toList, bs_toList, bs_toList])
set_option maxHeartbeats 1000000 in
theorem rline_any (a : Option Addr) (n c : Nat) (ps : List ByteArray) (w : World) (hS : Strs w a n ps) (hn : n ≤ 100) (hsum : (ps.map (·.data.toList.length)).sum + ps.length ≤ 1048576) :
    Calls Tryd.prog 17 #[.slice a n c] w fun e w' => e = .returned (.string (bs (jn ps))) ∧ w = w' := by
  have HS := Lib.hid hS
  have HSUM := Lib.hid hsum
  clear hS hsum
  go_enter Tryd.func17, Tryd.ntmps17
  go_wp2
  go_loop [3, 4] (fun t i => ∃ (k : Nat) (l : List UInt8), k ≤ n ∧ l.length ≤ 1048576 ∧ Hid (l = jn (ps.take k)) ∧ t = .string (bs l) ∧ i = .int .i64 (k : Int)) (fun _ i => n - (intOf i).toNat)
  case atStart => exact ⟨0, [], by omega, by simp, Lib.hid rfl, rfl, rfl⟩
  case round =>
    obtain ⟨k, l, hk, hll, HL, rfl, rfl⟩ := hrel
    by_cases hlt : k < n
    · obtain ⟨b, off, ha, hb, hc⟩ := HS.out.2.resolve_left (by omega)
      subst ha
      have hkp : k < ps.length := by rw [HS.out.1]; exact hlt
      obtain ⟨x, hx⟩ : ∃ x, ps[k] = x := ⟨_, rfl⟩
      have gx : w.cell? ⟨b, off + k, none⟩ = some (.string x) := by rw [hc k hlt, List.getD_eq_getElem?_getD, List.getElem?_eq_getElem hkp, ← hx]; rfl
      have hxs : x.size ≤ 1048576 := by
        have h1 := size_le_sum ps k hkp
        rw [hx, ← blen] at h1
        have := HSUM.out
        omega
      have hnl : (jn (ps.take (k + 1))).length ≤ 1048576 := by
        have h1 := jn_len (ps.take (k + 1))
        have h2 := sum_take ps (k + 1)
        have := HSUM.out
        omega
      have hbl : (bs l).size ≤ 1048576 := by rw [bs_size]; exact hll
      have hb32 : (ByteArray.mk #[32]).size = 1 := rfl
      have HX := Lib.hid hx
      clear hc hx
      by_cases hk0 : k = 0
      · have t0 : ¬ (0 : Int) < (k : Int) := by omega
        have HN := Lib.hid (show jn (ps.take (k + 1)) = l ++ x.data.toList by
          rw [HL.out]; subst hk0; rw [List.take_add_one, List.getElem?_eq_getElem hkp, HX.out]; simp [jn_one]; rfl)
        clear hk0
        go_wp2_with fail
        go_round
        case rel => exact ⟨k + 1, l ++ x.data.toList, by omega, by rw [← HN.out]; exact hnl, Lib.hid HN.out.symm, by rw [← bs_app, bs_of], by go_num⟩
        case measure => simp [intOf]; omega
      · have t0 : (0 : Int) < (k : Int) := by omega
        have HN := Lib.hid (show jn (ps.take (k + 1)) = l ++ ([32] ++ x.data.toList) by
          rw [HL.out, jn_next ps k hkp (by omega), HX.out])
        clear hk0
        go_wp2_with fail
        go_round
        case rel => exact ⟨k + 1, l ++ ([32] ++ x.data.toList), by omega, by rw [← HN.out]; exact hnl, Lib.hid HN.out.symm, by rw [← List.append_assoc, ← bs_app, ← bs_app, bs_of]; rfl, by go_num⟩
        case measure => simp [intOf]; omega
    · obtain rfl : k = n := by omega
      have HT := Lib.hid (show l = jn ps by rw [HL.out, List.take_of_length_le (by rw [HS.out.1]; exact Nat.le_refl _)])
      go_wp2_with fail
      go_ret
      exact ⟨by rw [← HT.out]; rfl, rfl⟩
/-- A line's words, plain. -/
def splitA (t : List UInt8) : List (List UInt8) := Lib.splitK [32] 0 (t.count 32) t
theorem splitA_miss (t : List UInt8) (h : (32 : UInt8) ∉ t) : splitA t = [t] := by
  unfold splitA; rw [List.count_eq_zero.2 h]; rfl
theorem splitA_hit (x r : List UInt8) (h : (32 : UInt8) ∉ x) : splitA (x ++ 32 :: r) = x :: splitA r := by
  unfold splitA
  have hc : (x ++ 32 :: r).count 32 = r.count 32 + 1 := by rw [List.count_append, List.count_cons_self, List.count_eq_zero.2 h]; omega
  have hi : Lib.index (x ++ 32 :: r) [32] = (x.length : Int) := by rw [Lib.index_one]; exact index_first x r h
  rw [hc, Lib.splitK, hi, if_neg (by intro e; have := beq_iff_eq.1 e; omega)]
  simp only [Int.toNat_natCast, Nat.add_zero, List.length_singleton]
  rw [List.take_left, show (x ++ 32 :: r).drop (x.length + 1) = r by rw [← List.drop_drop, List.drop_left]; rfl]
/-- Words found so far. -/
def WAt (l : List UInt8) (i f : Nat) (out : List ByteArray) : Prop :=
  (i ≤ l.length ∧ f ≤ i ∧ (32 : UInt8) ∉ (l.drop f).take (i - f) ∧ out.map (·.data.toList) ++ splitA (l.drop f) = splitA l) ∨ (i = l.length + 1 ∧ out.map (·.data.toList) = splitA l)
theorem WAt.go {l : List UInt8} {i f : Nat} {out : List ByteArray} (h : WAt l i f out) (hi : i < l.length) (hc : l[i] ≠ 32) : WAt l (i + 1) f out := by
  rcases h with ⟨h1, h2, h3, h4⟩ | ⟨h1, _⟩
  · refine .inl ⟨by omega, by omega, ?_, h4⟩
    rw [show i + 1 - f = (i - f) + 1 by omega, List.take_add_one, List.getElem?_drop, show f + (i - f) = i by omega, List.getElem?_eq_getElem hi]
    intro hm
    rcases List.mem_append.1 hm with hm | hm
    · exact h3 hm
    · simp at hm; exact hc hm.symm
  · omega
theorem WAt.hit {l : List UInt8} {i f : Nat} {out : List ByteArray} (x : ByteArray) (hx : x.data.toList = (l.drop f).take (i - f)) (h : WAt l i f out) (hi : i < l.length) (hc : l[i] = 32) : WAt l (i + 1) (i + 1) (out ++ [x]) := by
  rcases h with ⟨h1, h2, h3, h4⟩ | ⟨h1, _⟩
  · refine .inl ⟨by omega, by omega, by simp, ?_⟩
    have hd : l.drop f = (l.drop f).take (i - f) ++ 32 :: l.drop (i + 1) := by
      conv => lhs; rw [← List.take_append_drop (i - f) (l.drop f)]
      rw [List.drop_drop, show f + (i - f) = i by omega, List.drop_eq_getElem_cons hi, hc]
    rw [← h4, List.map_append, List.append_assoc]
    congr 1
    conv => rhs; rw [hd]
    rw [splitA_hit _ _ h3, ← hx]
    rfl
  · omega
theorem WAt.last {l : List UInt8} {i f : Nat} {out : List ByteArray} (x : ByteArray) (hx : x.data.toList = (l.drop f).take (i - f)) (h : WAt l i f out) (hi : i = l.length) : WAt l (i + 1) (i + 1) (out ++ [x]) := by
  rcases h with ⟨h1, h2, h3, h4⟩ | ⟨h1, _⟩
  · refine .inr ⟨by omega, ?_⟩
    have ht : (l.drop f).take (i - f) = l.drop f := List.take_of_length_le (by rw [List.length_drop]; omega)
    rw [ht] at hx h3
    rw [← h4, List.map_append, splitA_miss _ h3, ← hx]
    rfl
  · omega
theorem WAt.len {l : List UInt8} {i f : Nat} {out : List ByteArray} (h : WAt l i f out) : f ≤ l.length + 1 ∨ True := .inr trivial
theorem info9 : (Tryd.prog.info? 9).map (fun i => (i.zero, i.size, i.bytes)) = some (some (.string ByteArray.empty), 1, 16) := by kernel_rfl
/-- A slice of strings that a call builds. -/
structure SRow (w0 : World) (ps : List ByteArray) (v : Value) (n : Nat) (wx : World) : Prop where
  own : wx.ownsRow w0.heap.size 9 1 v n (ps.map Value.string)
  below : Below w0.heap.size w0 wx
theorem SRow.snoc {w0 wr w1 : World} {ps : List ByteArray} {v v' : Value} {n : Nat} {x : ByteArray} {o : Obj} (h : SRow w0 ps v n wr)
    (hown : w1.ownsRow w0.heap.size 9 1 v' (n + 1) (ps.map Value.string ++ [.string x])) (hg : (wr.alloc o).grownBy w1 v.ownBlock) : SRow w0 (ps ++ [x]) v' (n + 1) w1 :=
  ⟨by rw [List.map_append]; exact hown, (h.below.alloc h.below.size o).grown hg (by have := h.below.size; simp; omega) (fun j hj => (h.own.lt j hj).1)⟩
theorem SRow.fresh (w : World) : SRow w [] (.slice (some ⟨w.heap.size, 0, none⟩) 0 0) 0 (w.alloc (.cells #[] 9)) :=
  ⟨World.ownsRow_made w #[] 0 (Nat.le_refl _) (by decide) (by simp), (Below.refl _ _).alloc (Nat.le_refl _) _⟩
theorem SRow.strs {w0 wx : World} {ps : List ByteArray} {v : Value} {n : Nat} (h : SRow w0 ps v n wx) : ∃ a c, v = .slice a n c ∧ Strs wx a n ps := by
  have hc := @World.ownsRow.cells _ _ _ _ _ _ _ h.own
  have hl : ps.length = n := by have := h.own.1; simp at this; omega
  rcases h.own.2 with ⟨rfl, hn⟩ | ⟨g, cap, cur, rfl, hb, hg, hcap, _⟩
  · exact ⟨none, 0, by rw [hn], hl, .inl hn⟩
  · refine ⟨_, _, rfl, hl, .inr ⟨g, 0, rfl, (Array.getElem?_eq_some_iff.1 hg).1, fun j hj => ?_⟩⟩
    have hj2 : j < ps.length := by omega
    have := hc rfl j (.string ps[j]) (by rw [List.getElem?_map, List.getElem?_eq_getElem hj2]; rfl)
    rw [Lib.add_plain] at this
    rw [Nat.zero_add] at this ⊢
    rw [this, List.getD_eq_getElem?_getD, List.getElem?_eq_getElem hj2]
    rfl
end Go.Proofs.YtgbnmokajaehhaaDoor
