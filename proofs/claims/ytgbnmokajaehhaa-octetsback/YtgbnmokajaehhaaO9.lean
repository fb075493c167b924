/- Contract: Cut. -/
import Derived.Test.YtgbnmokajaehhaaO8
namespace Go.Proofs.Ytgbnmokajaehhaa
open Go.RowKit
/-- Bytes, cut into parts. -/
def chunksF (m : Nat) : Nat → List UInt8 → List (List UInt8)
  | 0, _ => []
  | f + 1, l => if l.isEmpty then [] else l.take m :: chunksF m f (l.drop m)
theorem chunksF_nil (m f : Nat) : chunksF m f [] = [] := by cases f <;> simp [chunksF]
theorem chunksF_cons (m f : Nat) (l : List UInt8) (h : l ≠ []) : chunksF m (f + 1) l = l.take m :: chunksF m f (l.drop m) := by
  simp [chunksF, h]
/-- Some parts are cut, and what is left. -/
def CutAt (m : Nat) (s q : ByteArray) (ps : List ByteArray) : Prop := ∃ f, q.size ≤ f ∧ chunksF m s.size s.data.toList = ps.map (·.data.toList) ++ chunksF m f q.data.toList
theorem CutAt.start (m : Nat) (s : ByteArray) : CutAt m s s [] := ⟨s.size, Nat.le_refl _, by simp⟩
theorem ext_take (s : ByteArray) (n : Nat) : (s.extract 0 n).data.toList = s.data.toList.take n := by simp [ByteArray.data_extract]
theorem ext_drop (s : ByteArray) (n : Nat) : (s.extract n s.size).data.toList = s.data.toList.drop n := by
  rw [ByteArray.data_extract, Array.toList_extract, List.extract]
  rw [List.take_of_length_le]
  simp
theorem CutAt.next {m : Nat} {s q : ByteArray} {ps : List ByteArray} (h : CutAt m s q ps) (hm : 1 ≤ m) (n : Nat) (hn : n = m ∨ n = q.size ∧ q.size ≤ m) (hq : 0 < q.size) : CutAt m s (q.extract n q.size) (ps ++ [q.extract 0 n]) := by
  obtain ⟨f, hf, he⟩ := h
  obtain ⟨f', rfl⟩ : ∃ f', f = f' + 1 := ⟨f - 1, by omega⟩
  have hne : q.data.toList ≠ [] := by
    intro h0
    have := blen q
    rw [h0, List.length_nil] at this
    omega
  have hle : (q.extract n q.size).size ≤ f' := by
    have e := ext_size q n q.size
    rw [Nat.min_self] at e
    rw [e]; omega
  refine ⟨f', hle, ?_⟩
  rw [he, chunksF_cons _ _ _ hne, List.map_append, List.append_assoc]
  congr 1
  simp only [List.map_cons, List.map_nil, List.singleton_append]
  rw [ext_take, ext_drop]
  rcases hn with rfl | ⟨rfl, h2⟩
  · rfl
  · rw [blen q] at h2 ⊢
    rw [List.take_of_length_le h2, List.take_of_length_le (Nat.le_refl _), List.drop_of_length_le h2, List.drop_of_length_le (Nat.le_refl _)]
/-- The parts of a string. -/
def cutB (m : Nat) (s : ByteArray) : List ByteArray := (chunksF m s.size s.data.toList).map bs
theorem CutAt.done {m : Nat} {s q : ByteArray} {ps : List ByteArray} (h : CutAt m s q ps) (hq : q.size = 0) : ps = cutB m s := by
  obtain ⟨f, _, he⟩ := h
  have h0 : q.data.toList = [] := by have := blen q; rw [hq] at this; exact List.eq_nil_of_length_eq_zero this.symm
  rw [h0, chunksF_nil, List.append_nil] at he
  unfold cutB
  rw [he, List.map_map]
  have : (bs ∘ fun x : ByteArray => x.data.toList) = id := by funext x; exact bs_of x
  rw [this, List.map_id]
theorem CutAt.len {m : Nat} {s q : ByteArray} {ps : List ByteArray} (h : CutAt m s q ps) : ps.length ≤ s.size := by
  obtain ⟨f, _, he⟩ := h
  have hl : ∀ f l, (chunksF m f l).length ≤ f := by
    intro f
    induction f with
    | zero => intro l; simp [chunksF]
    | succ f ih =>
      intro l
      unfold chunksF
      split
      · simp
      · have := ih (l.drop m); simp; omega
  have h1 := hl s.size s.data.toList
  have h2 := congrArg List.length he
  simp at h2
  omega
theorem info9 : (Try.prog.info? 9).map (fun i => (i.zero, i.size, i.bytes)) = some (some (.string ByteArray.empty), 1, 16) := by kernel_rfl
/-- A slice of strings that the call made. -/
structure StrRow (w0 : World) (ps : List ByteArray) (v : Value) (wx : World) : Prop where
  own : wx.ownsRow w0.heap.size 9 1 v ps.length (ps.map Value.string)
  below : Below w0.heap.size w0 wx
theorem StrRow.snoc {w0 wr w1 : World} {ps : List ByteArray} {v v' : Value} {x : ByteArray} {o : Obj} (h : StrRow w0 ps v wr)
    (hown : w1.ownsRow w0.heap.size 9 1 v' (ps.length + 1) (ps.map Value.string ++ [.string x])) (hg : (wr.alloc o).grownBy w1 v.ownBlock) : StrRow w0 (ps ++ [x]) v' w1 :=
  ⟨by rw [List.length_append, List.map_append]; exact hown, (h.below.alloc h.below.size o).grown hg (by have := h.below.size; simp; omega) (fun j hj => (h.own.lt j hj).1)⟩
set_option maxHeartbeats 1000000 in
theorem cut_any (s : ByteArray) (m : Nat) (w : World) (hs : s.size ≤ 1048576) (hm : 1 ≤ m) (hm2 : m ≤ 9223372036854775807) :
    Calls Try.prog 24 #[.string s, .int .i64 (m : Int)] w fun e w' => ∃ v, e = .returned v ∧ StrRow w (cutB m s) v w' := by
  obtain ⟨i0, hi, hz0, hz1, hz2⟩ := info_parts info9
  go_enter Try.func24, Try.ntmps24
  go_wp2
  go_loopw [0, 5] (fun t v wx => ∃ (q : ByteArray) (ps : List ByteArray), q.size ≤ s.size ∧ CutAt m s q ps ∧ t = .string q ∧ StrRow w ps v wx) (fun t _ _ => match t with | .string q => q.size | _ => 0)
  case atStart => exact ⟨s, [], by omega, CutAt.start m s, rfl, ⟨World.ownsRow_nil _ _ _ _, Below.refl _ _⟩⟩
  case round =>
    obtain ⟨q, ps, hq, hC, rfl, hS⟩ := hrel
    by_cases hlt : 0 < q.size
    · obtain ⟨n, hn⟩ : ∃ n : Nat, min m q.size = n := ⟨_, rfl⟩
      have hn1 : n ≤ q.size := by omega
      have hn2 : 1 ≤ n := by omega
      have hmz : min (m : Int) (q.size : Int) = (n : Int) := by omega
      have hC' := hC.next hm n (by omega) hlt
      have hlen := hC.len
      have hown := hS.own
      have hbl2 := hS.below
      have HN := Lib.hid hn
      clear hn
      go_wp2_with (first
        | (at_builtin; refine wpList_append_own _ rfl _ _ 33 rfl w.heap.size 9 i0 (.string ByteArray.empty) 1 16 Try.underlying33 hi hz0 hz1 hz2 rfl (by decide) _ _ _ rfl (hown.alloc _) ⟨wr.heap.size, 0, none⟩ 1 1 [.string (q.extract 0 n)] rfl rfl ?c1 ?c2 ?c3 ?c4 ?c5 ?_))
      case c1 =>
        intro j u hj
        match j, hj with
        | 0, hj => simp at hj; subst hj; simp [Addr.add]
      case c2 => intro u hu; simp at hu; subst hu; rfl
      case c3 => unfold maxLen; omega
      case c4 => omega
      case c5 => have := hbl2.size; simp; omega
      intro v' w4 hown' hgrow _
      have hS' := hS.snoc hown' hgrow
      have hsz' : (q.extract n q.size).size = q.size - n := by
        have e := ext_size q n q.size
        rwa [Nat.min_self] at e
      have HSZ := Lib.hid hsz'
      clear hown' hgrow hown hbl2 hS hsz'
      go_wp2
      go_roundw
      case rel => exact ⟨_, _, by rw [HSZ.out]; omega, hC', rfl, hS'⟩
      case measure => show ByteArray.size _ < ByteArray.size _; rw [HSZ.out]; omega
    · obtain rfl := hC.done (by omega)
      go_wp2
      go_ret
      exact ⟨_, rfl, hS⟩
theorem cut_no (s : ByteArray) (m : Int) (w : World) (hm : m < 1) :
    Calls Try.prog 24 #[.string s, .int .i64 m] w fun e w' => e = .returned (.slice none 0 0) ∧ w = w' := by
  go_enter Try.func24, Try.ntmps24
  go_wp2
  go_ret
  exact ⟨rfl, rfl⟩
end Go.Proofs.Ytgbnmokajaehhaa
