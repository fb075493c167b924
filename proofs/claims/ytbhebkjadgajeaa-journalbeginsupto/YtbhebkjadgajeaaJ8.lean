/- Contract: Scan. -/
import Derived.Test.YtbhebkjadgajeaaJ7
namespace Go.Proofs.Ytbhebkjadgajeaa
open Go.RowKit
/-- Images of a transaction, or of none. -/
abbrev Tx := List (Int × ByteArray)
/-- The transactions that stand one behind the other. -/
def scanG (e : Nat) (z : ByteArray) : Nat → List Sct → Nat → List Tx
  | 0, _, _ => []
  | f + 1, L, c => if nextG e (c + 1) z L [] = [] then [] else nextG e (c + 1) z L [] :: scanG e z f (L.drop ((nextG e (c + 1) z L []).length + 1)) (c + 1)
theorem nextG_len (e n : Nat) (z : ByteArray) : ∀ (L : List Sct) (acc R : Tx), nextG e n z L acc = R → R ≠ [] → R.length + 1 ≤ acc.length + L.length
  | [], acc, R, h, hR => by rw [nextG] at h; exact absurd h.symm hR
  | s :: r, acc, R, h, hR => by
    rw [nextG] at h
    split at h
    · subst h; simp only [List.length_cons]; omega
    · split at h
      · have := nextG_len e n z r _ R h hR
        simp only [List.length_append, List.length_cons, List.length_nil] at this ⊢
        omega
      · exact absurd h.symm hR
section
variable {w0 wr w1 : World} {v v' : Value} {A : List Tx}
theorem own_base {b b' T sz n : Nat} {xs : List Value} (h : wr.ownsRow b T sz v n xs) (hb : b' ≤ b) : wr.ownsRow b' T sz v n xs := by
  refine ⟨h.1, ?_⟩
  rcases h.2 with hn | ⟨g, cap, cur, hv, h1, h2⟩
  · exact .inl hn
  · exact .inr ⟨g, cap, cur, hv, Nat.le_trans hb h1, h2⟩
theorem RowOf.since {T sz n : Nat} {xs : List Value} (h : RowOf wr T sz v n xs w1) (B : Below w0.heap.size w0 wr) : RowOf w0 T sz v n xs w1 := ⟨own_base h.own B.size, below_to B h.below⟩
/-- A slice of transactions, each a slice of images; all in blocks that are new since w0. -/
def GRow (w0 : World) (v : Value) (A : List Tx) (wx : World) : Prop :=
  ∃ vs : List Value, vs.length = A.length ∧ RowOf w0 35 1 v A.length vs wx ∧ ∀ i (hi : i < A.length), ∃ vi, vs[i]? = some vi ∧ RowOf w0 57 2 vi A[i].length (flat A[i]) wx
theorem GRow.start (w : World) : GRow w (.slice none 0 0) [] w := ⟨[], rfl, RowOf.start _ _ _, fun i hi => by simp at hi⟩
theorem GRow.later (h : GRow w0 v A wr) (B : Below wr.heap.size wr w1) : GRow w0 v A w1 := by
  obtain ⟨vs, hl, hR, hI⟩ := h
  refine ⟨vs, hl, hR.later B, fun i hi => ?_⟩
  obtain ⟨vi, hv, hr⟩ := hI i hi
  exact ⟨vi, hv, hr.later B⟩
theorem GRow.since (h : GRow wr v A w1) (B : Below w0.heap.size w0 wr) : GRow w0 v A w1 := by
  obtain ⟨vs, hl, hR, hI⟩ := h
  refine ⟨vs, hl, hR.since B, fun i hi => ?_⟩
  obtain ⟨vi, hv, hr⟩ := hI i hi
  exact ⟨vi, hv, hr.since B⟩
theorem GRow.below (h : GRow w0 v A w1) : Below w0.heap.size w0 w1 := by
  obtain ⟨vs, _, hr, _⟩ := h; exact hr.below
theorem GRow.form0 (h : GRow w0 v A wr) : ∃ a c, v = .slice a A.length c := by
  obtain ⟨vs, hl, hR, hI⟩ := h
  exact hR.form0
theorem row_apart {b b' : Nat} {v u : Value} {n m : Nat} {xs ys : List Value} (h : wr.ownsRow b 35 1 v n xs) (h' : wr.ownsRow b' 57 2 u m ys) : u.ownBlock = none ∨ u.ownBlock ≠ v.ownBlock := by
  rcases h'.2 with ⟨rfl, _⟩ | ⟨g, cap, cur, rfl, _, hg, _⟩
  · exact .inl rfl
  · refine .inr ?_
    rcases h.2 with ⟨rfl, _⟩ | ⟨g', cap', cur', rfl, _, hg', _⟩
    · simp [Value.ownBlock]
    · intro e
      simp only [Value.ownBlock, Option.some.injEq] at e
      subst e
      rw [hg] at hg'
      simp at hg'
theorem GRow.snoc {vs : List Value} {vi : Value} {R : Tx} {o : Obj} (hl : vs.length = A.length) (hR : RowOf w0 35 1 v A.length vs wr) (hI : ∀ i (hi : i < A.length), ∃ vi, vs[i]? = some vi ∧ RowOf w0 57 2 vi A[i].length (flat A[i]) wr)
    (hr : RowOf w0 57 2 vi R.length (flat R) wr) (hown : w1.ownsRow w0.heap.size 35 1 v' (A.length + 1) (vs ++ [vi])) (hg : (wr.alloc o).grownBy w1 v.ownBlock) : GRow w0 v' (A ++ [R]) w1 := by
  have hB : Below w0.heap.size w0 w1 := (hR.snoc (m := 1) (ys := [vi]) hown hg).below
  refine ⟨vs ++ [vi], by simp [hl], ?_, fun i hi => ?_⟩
  · rw [List.length_append]; exact ⟨hown, hB⟩
  · by_cases hi2 : i < A.length
    · obtain ⟨u, hu, hur⟩ := hI i hi2
      refine ⟨u, by rw [List.getElem?_append_left (by omega)]; exact hu, ?_, hB⟩
      rw [List.getElem_append_left hi2]
      exact (hur.own.alloc o).kept hg (row_apart hR.own hur.own)
    · have hi3 : i = A.length := by simp at hi; omega
      subst hi3
      refine ⟨vi, by rw [List.getElem?_append_right (by omega)]; simp [hl], ?_, hB⟩
      simp only [List.getElem_concat_length]
      exact (hr.own.alloc o).kept hg (row_apart hR.own hr.own)
end
theorem info35 : (Try.prog.info? 35).map (fun i => (i.zero, i.size, i.bytes)) = some (some (.slice none 0 0), 1, 24) := by kernel_rfl
theorem one_cell_sl (a : Option Addr) (n c : Nat) : (Value.slice a n c).oneCell' = true := rfl
theorem scan_nil (size : Int) (ep : Nat) (w : World) : Calls Try.prog 15 #[.pointer none, .int .i64 size, .int .u64 (ep : Int)] w fun e w' => e = .returned (.tuple #[.slice none 0 0, .int .i64 18]) ∧ w = w' := by
  go_enter Try.func15, Try.ntmps15
  go_wp2_with (go_at_call 25; refine (fits_nil _ _).mono ?_; rintro e w' ⟨rfl, rfl⟩)
  go_ret2
  exact ⟨rfl, rfl⟩
theorem next_lit (e g o c : Nat) (N : Int) (n : Nat) (hN : N = (n : Int)) (m : Nat) (L : List Sct) (hm : m = L.length) (z : ByteArray) (hz : bs (List.replicate 480 0) = z) (w : World) (hn : L.length ≤ 1024) (hS : SAt w g o L) (R : Tx) (hR : nextG e n z L [] = R) :
    Calls Try.prog 33 #[.slice (some ⟨g, o, none⟩) m c, .int .u64 (e : Int), .int .u64 N] w fun x w' => ∃ v, x = .returned v ∧ RowOf w 57 2 v R.length (flat R) w' := by
  subst hN hm; exact next_any e n g o c L z hz w hn hS R hR
section
variable {K : Nat → Prop} {w w1 : World} {d sb : Nat} {S : List ByteArray} {pv : Value} {P : List (Int × ByteArray)} {fuse : Int} {down : Bool} {ops : Int} {j size used ep num : Nat}
theorem scan_no (h : Disk K w d sb S pv P fuse down ops) (size : Int) (ep : Nat) (hn : size < 4 ∨ 1024 < size ∨ (S.length : Int) ≤ size) : Calls Try.prog 15 #[.pointer (some ⟨d, 0, none⟩), .int .i64 size, .int .u64 (ep : Int)] w fun e w' => e = .returned (.tuple #[.slice none 0 0, .int .i64 18]) ∧ w = w' := by
  have HN := Lib.hid hn
  clear hn
  go_enter Try.func15, Try.ntmps15
  go_wp2_with (go_at_call 25; refine (fits_no h _ HN.out).mono ?_; rintro e w' ⟨rfl, rfl⟩)
  go_ret2
  exact ⟨rfl, rfl⟩
theorem scan_down (h : Disk K w d sb S pv P fuse true ops) (size ep : Nat) (h1 : 4 ≤ size) (h2 : size ≤ 1024) (h3 : size < S.length) : Calls Try.prog 15 #[.pointer (some ⟨d, 0, none⟩), .int .i64 (size : Int), .int .u64 (ep : Int)] w fun e w' => e = .returned (.tuple #[.slice none 0 0, .int .i64 17]) ∧ Below w.heap.size w w' := by
  go_enter Try.func15, Try.ntmps15
  go_wp2_with fail
  refine (fits_yes h _ h1 h2 h3).mono ?_
  rintro e w' ⟨rfl, rfl⟩
  go_wp2_with fail
  refine (jread_down h size (by omega) h2).mono ?_
  rintro e w1 ⟨rfl, B⟩
  go_wp2_with fail
  go_ret2
  exact ⟨rfl, B⟩
set_option maxRecDepth 100000 in
set_option maxHeartbeats 2000000 in
theorem scan_ok (h : Disk K w d sb S pv P fuse false ops) (size ep : Nat) (h1 : 4 ≤ size) (h2 : size ≤ 1024) (h3 : size < S.length) (hP : P.length ≤ 1000000) (hT : ∀ i, i < S.length → (readT S P i).size ≤ maxLen) (z : ByteArray) (hz : bs (List.replicate 480 0) = z) (A : List Tx) (hA : scanG ep z (size + 1) (readS S P size) 0 = A) :
    Calls Try.prog 15 #[.pointer (some ⟨d, 0, none⟩), .int .i64 (size : Int), .int .u64 (ep : Int)] w fun e w' => ∃ v, e = .returned (.tuple #[v, .int .i64 0]) ∧ GRow w v A w' := by
  obtain ⟨i0, hi0, hz0, hz1, hz2⟩ := info_parts info35
  have n1 := Lib.hid (jread_ok h size (by omega) h2 h3 hP hT)
  have hRl := readS_length S P size
  obtain ⟨L, hL⟩ : ∃ L, readS S P size = L := ⟨_, rfl⟩
  rw [hL] at hRl hA n1
  have HA := Lib.hid hA
  have HZ := Lib.hid hz
  have HRL := Lib.hid hRl
  clear hA hz hL hT hRl
  go_enter Try.func15, Try.ntmps15
  go_wp2_with fail
  refine (fits_yes h _ h1 h2 h3).mono ?_
  rintro e w' ⟨rfl, rfl⟩
  go_wp2_with fail
  refine n1.out.mono ?_
  rintro e w1 ⟨rfl, hSW, B1⟩
  clear n1
  go_wp2_with fail
  go_loopw [8, 10] (fun r v wr => ∃ k f o : Nat, ∃ A1 : List Tx, r = .slice (some ⟨w.heap.size, o, none⟩) (size - k) (size - k) ∧ Hid (k < size → o = k * 6) ∧ k ≤ size ∧ size - k < f ∧ A1.length ≤ k ∧ Hid (A1 ++ scanG ep z f (L.drop k) A1.length = A) ∧ GRow w1 v A1 wr) (fun r _ _ => (match r with | .slice _ n _ => n | _ => 0))
  case atStart => exact ⟨0, size + 1, 0, [], by simp, Lib.hid (fun _ => by simp), Nat.zero_le _, by omega, Nat.le_refl _, Lib.hid HA.out, GRow.start w1⟩
  case round =>
    obtain ⟨k, f, o, A1, rfl, ho, hk, hf, hA1, HG, hGR⟩ := hrel
    have hS := hSW.below hGR.below
    have hSA : SAt wr w.heap.size o (L.drop k) := by
      by_cases hks : k < size
      · rw [ho.out hks]; exact hS.at k
      · exact ⟨hS.lt, fun j hj => by rw [List.length_drop, HRL.out] at hj; omega⟩
    obtain ⟨f, rfl⟩ : ∃ f', f = f' + 1 := ⟨f - 1, by omega⟩
    obtain ⟨a, c, rfl⟩ := hGR.form0
    obtain ⟨R, hR⟩ : ∃ R, nextG ep (A1.length + 1) z (L.drop k) [] = R := ⟨_, rfl⟩
    have hw1 : IntKind.u64.wrap (A1.length : Int) = (A1.length : Int) := IntWalk.u64_in _ ⟨by omega, by omega⟩
    have hw2 : IntKind.u64.wrap ((A1.length : Int) + 1) = (A1.length : Int) + 1 := IntWalk.u64_in _ ⟨by omega, by omega⟩
    have nn := Lib.hid (next_lit ep w.heap.size o (size - k) ((A1.length : Int) + 1) (A1.length + 1) (by omega) (size - k) (L.drop k) (by rw [List.length_drop, HRL.out]) z HZ.out wr (by rw [List.length_drop, HRL.out]; omega) hSA R hR)
    go_wp2_with fail
    refine nn.out.mono ?_
    rintro e w2 ⟨vR, rfl, hRow⟩
    have hG2 := hGR.later hRow.below
    replace hRow := hRow.since hGR.below
    clear nn hGR hS
    by_cases hR0 : R = []
    · subst hR0
      obtain ⟨aR, cR, rfl⟩ := hRow.form0
      obtain rfl : A1 = A := by
        have := HG.out
        rw [scanG, if_pos hR] at this
        simpa using this
      simp only [List.length_nil]
      go_wp2_with fail
      go_ret2
      exact ⟨_, rfl, hG2.since B1⟩
    · have hRp : 0 < R.length := List.length_pos_iff.2 hR0
      have hRl := nextG_len _ _ _ _ _ _ hR hR0
      rw [List.length_drop, HRL.out] at hRl
      simp only [List.length_nil, Nat.zero_add] at hRl
      have hHG := HG.out
      rw [scanG, if_neg (by rw [hR]; exact hR0), hR, List.drop_drop] at hHG
      have hHG2 : (A1 ++ [R]) ++ scanG ep z f (L.drop (k + (R.length + 1))) (A1 ++ [R]).length = A := by
        rw [List.length_append, List.append_assoc]; exact hHG
      have HHG := Lib.hid hHG2
      have hRb : ((R.length : Int) == 0) = false := by rw [beq_eq_false_iff_ne]; omega
      clear HG hR hR0 hHG hHG2
      obtain ⟨gR, cR, rfl, _, _, _⟩ := hRow.form hRp
      obtain ⟨vs, hvl, hr, hI⟩ := hG2
      go_wp2_with (at_builtin; refine wpList_append_own _ rfl _ _ 44 rfl w1.heap.size 35 i0 (.slice none 0 0) 1 24 Try.underlying44 hi0 hz0 hz1 hz2 rfl (by decide) _ _ _ rfl (hr.own.alloc _) ⟨w2.heap.size, 0, none⟩ 1 1 [.slice (some ⟨gR, 0, none⟩) R.length cR] rfl ?d1 ?d2 ?d3 ?d4 ?d5 ?d6 ?_)
      case d1 => rfl
      case d2 =>
        intro j u hj
        match j, hj with
        | 0, hj => simp at hj; subst hj; simp [Addr.add]
      case d3 => intro u hu; simp at hu; subst hu; rfl
      case d4 => unfold maxLen; omega
      case d5 => omega
      case d6 => have := hr.below.size; simp; omega
      intro v2 w3 hown3 hgrow3 hnil3
      have hG3 := GRow.snoc hvl hr hI hRow hown3 hgrow3
      go_wp2_with fail
      go_roundw
      case rel =>
        by_cases hcap : size - k = R.length + 1
        · rw [if_pos hcap]
          exact ⟨k + (R.length + 1), f, o, A1 ++ [R], by rw [show size - (k + (R.length + 1)) = size - k - (R.length + 1) by omega], Lib.hid (fun h => by omega), by omega, by omega, by simp; omega, HHG, hG3⟩
        · rw [if_neg hcap]
          exact ⟨k + (R.length + 1), f, o + (R.length + 1) * 6, A1 ++ [R], by rw [show size - (k + (R.length + 1)) = size - k - (R.length + 1) by omega], Lib.hid (fun h => by rw [ho.out (by omega)]; omega), by omega, by omega, by simp; omega, HHG, hG3⟩
      case measure => simp; omega
end
end Go.Proofs.Ytbhebkjadgajeaa
