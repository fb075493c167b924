/- Contract: slices.Repeat of one string; New. -/
import Derived.Test.YtbhebkjadgajeaaD4
import Derived.Laws.CopyOwn
namespace Go.Proofs.Ytbhebkjadgajeaa
open Go.RowKit
theorem mul_one (n : Nat) (w : World) (hn : n < 18446744073709551616) : Calls Try.prog 35 #[.int .u64 1, .int .u64 (n : Int)] w fun e w' => e = .returned (.tuple #[.int .u64 0, .int .u64 (n : Int)]) ∧ w = w' := by
  have h := Any.bits_Mul { Try.lays105 with } 1 n (by omega) hn w
  rw [Nat.one_mul, Nat.div_eq_of_lt hn, Nat.mod_eq_of_lt hn] at h
  exact h.mono fun e w' ⟨he, hw⟩ => ⟨he, hw.symm⟩
theorem info9 : (Try.prog.info? 9).map (fun i => (i.zero, i.size, i.bytes)) = some (some (.string ⟨#[]⟩), 1, 16) := by kernel_rfl
theorem size9 : (Try.prog.info? 9).map (·.size) = some 1 := by kernel_rfl
set_option maxRecDepth 100000 in
theorem run_make9 (w : World) (m : Nat) (hm : m ≤ 1048576) :
    (Instr.makeSlice 58 (.int .i64 (m : Int)) (.int .i64 (m : Int))).run Try.prog w = .ok (.slice (some ⟨w.heap.size, 0, none⟩) m m) (w.alloc (.cells (List.replicate m (.string ⟨#[]⟩)).toArray 9)) := by
  obtain ⟨i0, hi, hz0, hz1, hz2⟩ := info_parts info9
  have := run_make (P := Try.prog) w 58 9 i0 _ Try.underlying58 hi hz0 .i64 .i64 m m (by omega) (by omega) (by rw [hz2]; omega) (by omega)
  rw [this]
  simp only [Int.toNat_natCast]
  congr 3
  rw [hz1]
  apply Array.ext
  · simp [madeCells]
  · intro i h1 h2
    simp [madeCells, Value.cells, Nat.mod_one]
theorem splice_fill (n k m : Nat) (x y : Value) : splice (List.replicate k x ++ List.replicate (n - k) y) k (List.replicate m x) = List.replicate (k + m) x ++ List.replicate (n - (k + m)) y := by
  unfold splice
  rw [List.take_left' (by simp), List.drop_append, ← List.append_assoc, List.replicate_append_replicate]
  simp
  omega
theorem splice_one (n : Nat) (x y : Value) : splice (List.replicate n y) 0 [x] = List.replicate 1 x ++ List.replicate (n - 1) y := by
  unfold splice
  simp
theorem copy_at (w : World) (g off dLen dCap : Nat) (ad : Addr) (sLen sCap : Nat) (cur : List Value) (hg : w.heap[g]? = some (.cells cur.toArray 9 (0, 0))) (cs : List Value) (hn : cs.length = Nat.min sLen dLen)
    (hsrc : ∀ j v, cs[j]? = some v → w.cell? (ad.add j) = some v) (hfit : off + cs.length ≤ cur.length) (h1 : ∀ v ∈ cs, v.oneCell' = true) :
    ∃ w', (Builtin.copy_ #[58, 58] 3 #[.slice (some ⟨g, off, none⟩) dLen dCap, .slice (some ad) sLen sCap]).run Try.prog w = .ok (goInt cs.length) w' ∧ w'.heap[g]? = some (.cells (splice cur off cs).toArray 9 (0, 0)) ∧ Below g w w' ∧ w'.heap.size = w.heap.size := by
  have hrun := run_copy_row (P := Try.prog) w 58 58 3 9 g off dLen dCap ad sLen sCap cur.toArray 9 cs Try.underlying58 size9 hg hn hsrc (by simpa using hfit) h1
  exact ⟨_, hrun, by simpa [splice] using setRow_heap w g _ _ 9 _ hg, below_setRow (Below.refl _ _) (Nat.le_refl _) _, by simp [World.setRow]⟩
set_option maxRecDepth 100000 in
set_option maxHeartbeats 1000000 in
theorem repeat_any (n xb : Nat) (z : ByteArray) (w : World) (h1 : 1 ≤ n) (h2 : n ≤ 4865) (hx : w.cell? ⟨xb, 0, none⟩ = some (.string z)) :
    Calls Try.prog 23 #[.slice (some ⟨xb, 0, none⟩) 1 1, .int .i64 (n : Int)] w fun e w' => e = .returned (.slice (some ⟨w.heap.size, 0, none⟩) n n) ∧ w'.heap[w.heap.size]? = some (.cells (List.replicate n (.string z)).toArray 9 (0, 0)) ∧ Below w.heap.size w w' := by
  have hlt := World.block_lt_of_cell? w _ hx
  have km := run_make9 w n (by omega)
  have hB0 : Below w.heap.size w (w.alloc (.cells (List.replicate n (.string ⟨#[]⟩)).toArray 9)) := (Below.refl _ _).alloc (Nat.le_refl _) _
  have hg0 : (w.alloc (.cells (List.replicate n (.string ⟨#[]⟩)).toArray 9)).heap[w.heap.size]? = some (.cells (List.replicate n (.string ⟨#[]⟩)).toArray 9 (0, 0)) := by
    show (w.heap.push _)[w.heap.size]? = _
    simp
  have hx0 : (w.alloc (.cells (List.replicate n (.string ⟨#[]⟩)).toArray 9)).cell? ⟨xb, 0, none⟩ = some (.string z) := (hB0.cell (p := ⟨xb, 0, none⟩) hlt).trans hx
  obtain ⟨w2, kc, hg2, hb2, hs2⟩ := copy_at _ w.heap.size 0 n n ⟨xb, 0, none⟩ 1 1 _ hg0 [.string z] (by show 1 = min 1 n; omega) (fun j v hj => by
    match j, hj with
    | 0, hj => simp at hj; subst hj; simpa [Addr.add] using hx0) (by simp; omega) (fun v hv => by simp at hv; subst hv; rfl)
  rw [splice_one n _ _] at hg2
  have hB2 : Below w.heap.size w w2 := hB0.trans hb2
  have hsz2 : w.heap.size < w2.heap.size := by rw [hs2]; simp
  generalize w.alloc (.cells (List.replicate n (.string ⟨#[]⟩)).toArray 9) = wa at km kc
  have HG2 := Lib.hid hg2
  clear hg2 hg0 hx0 hB0 hb2 hs2 hx
  go_enter Try.func23, Try.ntmps23
  go_wp2_with fail
  refine (mul_one n _ (by omega)).mono ?_
  rintro e w' ⟨rfl, rfl⟩
  go_wp2_with fail
  clear km kc
  go_loopw [8] (fun i wx => ∃ k : Nat, 1 ≤ k ∧ k ≤ n ∧ Hid (wx.heap[w.heap.size]? = some (.cells (List.replicate k (Value.string z) ++ List.replicate (n - k) (Value.string ⟨#[]⟩)).toArray 9 (0, 0))) ∧ Below w.heap.size w wx ∧ w.heap.size < wx.heap.size ∧ i = .int .i64 (k : Int)) (fun i _ => n - (intOf i).toNat)
  case atStart => exact ⟨1, Nat.le_refl _, h1, HG2, hB2, hsz2, rfl⟩
  case round =>
    obtain ⟨k, hk1, hk2, HG, HB, hsz, rfl⟩ := hrel
    by_cases hlt : k < n
    · obtain ⟨m, hm1, hm2, hm3⟩ : ∃ m, Nat.min k (n - k) = m ∧ 1 ≤ m ∧ k + m ≤ n := ⟨_, rfl, by show 1 ≤ min k (n - k); omega, by show k + min k (n - k) ≤ n; omega⟩
      have HM := Lib.hid hm1
      have HS := Lib.hid (splice_fill n k m (.string z) (.string ⟨#[]⟩))
      obtain ⟨C, hC⟩ : ∃ C, List.replicate m (Value.string z) = C := ⟨_, rfl⟩
      have HC := Lib.hid hC
      have hcl : C.length = m := by rw [← hC, List.length_replicate]
      have HCL := Lib.hid hcl
      obtain ⟨cur, hcur⟩ : ∃ cur, List.replicate k (Value.string z) ++ List.replicate (n - k) (Value.string ⟨#[]⟩) = cur := ⟨_, rfl⟩
      have hg := HG.out
      rw [hcur] at hg HS
      have hcn : cur.length = n := by rw [← hcur]; simp; omega
      have hcell : ∀ j v, C[j]? = some v → wr.cell? ((⟨w.heap.size, 0, none⟩ : Addr).add j) = some v := by
        intro j v hj
        have hadd : (⟨w.heap.size, 0, none⟩ : Addr).add j = ⟨w.heap.size, j, none⟩ := by unfold Addr.add; split <;> simp_all
        have hjm : j < m := by rw [← hcl]; exact (List.getElem?_eq_some_iff.1 hj).1
        have hmk : m ≤ k := by rw [← hm1]; exact Nat.min_le_left _ _
        rw [hadd, cell_of_row _ _ j _ _ _ hg, ← hcur]
        rw [← hC, List.getElem?_replicate, if_pos hjm] at hj
        simp only [List.getElem?_toArray]
        rw [List.getElem?_append_left (by simp; omega), List.getElem?_replicate, if_pos (by omega), ← hj]
      have hone : ∀ v ∈ C, v.oneCell' = true := by
        intro v hv
        rw [← hC] at hv
        rw [List.eq_of_mem_replicate hv]; rfl
      have hfit : k + C.length ≤ cur.length := by rw [hcl, hcn]; exact hm3
      have hnk : ¬ n = k := by omega
      have hmn : m ≤ n := by omega
      obtain ⟨w4, kc, hg4, hb4, hs4⟩ := copy_at wr.drew w.heap.size k (n - k) (n - k) ⟨w.heap.size, 0, none⟩ k n cur hg C (hcl.trans hm1.symm) hcell hfit hone
      have kc2 : (Builtin.copy_ #[58, 58] 3 #[.slice (some ⟨w.heap.size, k, none⟩) (n - k) (n - k), .slice (some ⟨w.heap.size, 0, none⟩) k n]).run Try.prog wr.drew = .ok (.int .i64 (m : Int)) w4 := by rw [kc, hcl]; rfl
      rw [← hC, HS.out] at hg4
      have HG4 := Lib.hid hg4
      have HB4 : Below w.heap.size w w4 := HB.drew.trans hb4
      have hsz4 : w.heap.size < w4.heap.size := by rw [hs4]; exact hsz
      clear hm1 hC hcl hg hcell hone hfit hcur hcn HG kc hg4 hb4 hs4 HS HM HC HCL
      go_wp2_with fail
      go_region
      go_wp2_with fail
      go_roundw
      case rel => exact ⟨k + m, by omega, by omega, HG4, HB4, hsz4, by go_num⟩
      case measure => simp [intOf]; omega
    · obtain rfl : k = n := by omega
      have hg : wr.heap[w.heap.size]? = some (.cells (List.replicate k (Value.string z)).toArray 9 (0, 0)) := by
        have := HG.out
        simpa using this
      have HGc := Lib.hid hg
      clear hg HG
      go_wp2_with fail
      go_ret
      exact ⟨rfl, HGc.out, HB⟩
theorem new_bad (n : Int) (w : World) (h : n < 1 ∨ 4865 < n) : Calls Try.prog 6 #[.int .i64 n] w fun e w' => e = .returned (.tuple #[.pointer none, .int .i64 18]) ∧ w = w' := by
  by_cases h1 : n < 1
  · clear h
    go_enter Try.func6, Try.ntmps6
    go_wp2_with fail
    go_ret2
    exact ⟨rfl, rfl⟩
  · have h2 : 4865 < n := by omega
    clear h
    go_enter Try.func6, Try.ntmps6
    go_wp2_with fail
    go_ret2
    exact ⟨rfl, rfl⟩
theorem Disk.made {K : Nat → Prop} {w w2 : World} {sb n : Nat} {Z : ByteArray} (hK : ∀ k, K k → k < w.heap.size) (h1 : w.heap.size ≤ sb) (hg : w2.heap[sb]? = some (.cells (List.replicate n (.string Z)).toArray 9 (0, 0))) :
    Disk K (w2.alloc (.cells #[.slice (some ⟨sb, 0, none⟩) n n, .slice none 0 0, .int .i64 0, .bool false, .int .i64 0] 63)) w2.heap.size sb (List.replicate n Z) (.slice none 0 0) [] 0 false 0 := by
  have hlt : sb < w2.heap.size := (Array.getElem?_eq_some_iff.1 hg).1
  have hg2 : (w2.alloc (.cells #[.slice (some ⟨sb, 0, none⟩) n n, .slice none 0 0, .int .i64 0, .bool false, .int .i64 0] 63)).heap[sb]? = some (.cells (List.replicate n (.string Z)).toArray 9 (0, 0)) := (Below.heap_alloc w2 _ sb hlt).trans hg
  refine ⟨⟨n, by simp [go_sem]⟩, by simp [go_sem], by simp [go_sem], by simp [go_sem], by simp [go_sem], by simp [go_sem], by simp [go_sem], by simp [go_sem], by simp [go_sem], ?_, World.ownsRow_nil _ _ _ _, fun hk => by have := hK _ hk; omega, fun hk => by have := hK _ hk; omega, fun k hk => by simp [Value.ownBlock] at hk, by omega, by simp; omega, fun k hk => by have := hK k hk; simp; omega⟩
  intro j hj
  have hj' : j < n := by simpa using hj
  constructor
  · rw [cell_of_row _ _ j _ _ _ hg2]
    simp [hj']
  · unfold World.frozen?
    simp only [hg2]
    simp
set_option maxHeartbeats 400000 in
theorem new_ok {K : Nat → Prop} (n : Nat) (w : World) (h1 : 1 ≤ n) (h2 : n ≤ 4865) (Z : ByteArray) (hZ : z512 = Z) (hK : ∀ k, K k → k < w.heap.size) :
    Calls Try.prog 6 #[.int .i64 (n : Int)] w fun e w' => ∃ d sb, e = .returned (.tuple #[.pointer (some ⟨d, 0, none⟩), .int .i64 0]) ∧ Disk K w' d sb (List.replicate n Z) (.slice none 0 0) [] 0 false 0 ∧ Below w.heap.size w w' := by
  have n1 := Lib.hid (fun w => blank_any Z hZ w)
  clear hZ
  go_enter Try.func6, Try.ntmps6
  go_wp2_with fail
  refine (n1.out _).mono ?_
  rintro e w1 ⟨rfl, B⟩
  go_wp2_with fail
  have hc : (w1.alloc (.cells #[.string Z] 9)).cell? ⟨w1.heap.size, 0, none⟩ = some (.string Z) := by simp [go_sem]
  have hs : w.heap.size ≤ (w1.alloc (.cells #[.string Z] 9)).heap.size := by have := B.size; simp; omega
  replace B := below_to B ((Below.refl w1.heap.size w1).alloc (Nat.le_refl _) (.cells #[.string Z] 9))
  refine (repeat_any n w1.heap.size Z _ h1 h2 hc).mono ?_
  rintro e w2 ⟨rfl, hg, hb⟩
  replace B := below_to B hb
  obtain ⟨sb, hsb⟩ : ∃ sb, (w1.alloc (.cells #[.string Z] 9)).heap.size = sb := ⟨_, rfl⟩
  rw [hsb] at hg hs ⊢
  clear hb hc hsb
  go_wp2_with fail
  go_ret2
  exact ⟨_, _, rfl, Disk.made hK hs hg, below_to B ((Below.refl _ _).alloc (Nat.le_refl _) _)⟩
end Go.Proofs.Ytbhebkjadgajeaa
