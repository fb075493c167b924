/- Contracts: decimal digits. -/
import Derived.Test.YtgbnmokajaehhaaDoorRows
import Derived.Test.YtgbnmokajaehhaaDoorShelf
import Derived.Test.YtgbnmokajaehhaaDoorN1
import Derived.WalkKit
import Derived.WalkLawsBesides
import Derived.WalkSpells
import Derived.WalkSmall
import Derived.Lib.Hide
import Derived.Lib.AppendIntMem
import Derived.Laws.BitsAll
import Derived.Laws.IdiomStrings
import Derived.Outline
import Derived.Below
namespace Go.Proofs.YtgbnmokajaehhaaDoor
open Go.RowKit Go.Sort
set_option linter.unusedVariables false
theorem ret_bool {a b : Bool} (h : a = b) : Ending.returned (.bool a) = .returned (.bool b) := by rw [h]
theorem ret_int {k : IntKind} {a b : Int} (h : a = b) : Ending.returned (.int k a) = .returned (.int k b) := by rw [h]
theorem below_to {w w1 w2 : World} (h : Below w.heap.size w w1) (h2 : Below w1.heap.size w1 w2) : Below w.heap.size w w2 := h.trans (h2.mono h.size)
theorem below_self (w : World) : Below w.heap.size w w := Below.refl _ _
theorem below_drewN {n : Nat} {w w1 : World} (h : Below n w w1) (k : Nat) : Below n w (w1.drewN k) := ⟨h.os, h.tape, h.output, h.size, h.block⟩
theorem below_grow (w : World) (os : Array Obj) : Below w.heap.size w (grow w os) :=
  ⟨rfl, rfl, rfl, by simp [grow], fun k hk => by simp [grow, Array.getElem?_append_left hk]⟩
/-- A string of bytes. -/
def bs (l : List UInt8) : ByteArray := ⟨l.toArray⟩
theorem bs_toList (l : List UInt8) : (bs l).data.toList = l := by simp [bs]
theorem bs_size (l : List UInt8) : (bs l).size = l.length := by simp [bs, ByteArray.size]
theorem bs_of (s : ByteArray) : bs s.data.toList = s := by simp [bs]
theorem toList_append (a b : ByteArray) : (a ++ b).data.toList = a.data.toList ++ b.data.toList := by simp [ByteArray.data_append]
theorem blen (b : ByteArray) : b.size = b.data.toList.length := by simp
/-- What the package's variables hold. -/
structure Env (w : World) : Prop where
  tab : Lib.TabIs Tryd.prog w "internal/strconv.uint64pow10" .u64 Lib.pow10Tab
  syn : ∃ tp p, w.var? Tryd.prog "strconv.ErrSyntax" = some #[.iface tp p]
  rng : ∃ tp p, w.var? Tryd.prog "strconv.ErrRange" = some #[.iface tp p]
  mx : ∃ m, w.cell? ⟨3, 0, none⟩ = some (.int .i64 m)
  big : 8 ≤ w.heap.size
theorem g0 : Tryd.prog.globalNamed "strconv.ErrSyntax" = some 0 := by kernel_rfl
theorem g1 : Tryd.prog.globalNamed "strconv.ErrRange" = some 1 := by kernel_rfl
theorem g2 : Tryd.prog.globalNamed "internal/strconv.uint64pow10" = some 2 := by kernel_rfl
theorem Env.below {w w1 : World} (h : Env w) (B : Below w.heap.size w w1) : Env w1 := by
  have hb := h.big
  refine ⟨var?_below B g2 (by omega) h.tab, ?_, ?_, ?_, Nat.le_trans h.big B.size⟩
  · obtain ⟨tp, p, e⟩ := h.syn; exact ⟨tp, p, var?_below B g0 (by omega) e⟩
  · obtain ⟨tp, p, e⟩ := h.rng; exact ⟨tp, p, var?_below B g1 (by omega) e⟩
  · obtain ⟨m, e⟩ := h.mx; exact ⟨m, (B.cell (p := ⟨3, 0, none⟩) (by show 3 < _; omega)).trans e⟩
theorem fmtU_small (i : Nat) (h : i < 100) (w : World) : Calls Tryd.prog 75 #[.int .u64 (i : Int), .int .i64 10] w fun e w' => e = .returned (.string (bs (Lib.decDigits i))) ∧ Below w.heap.size w w' := by
  go_enter Tryd.func75, Tryd.ntmps75
  go_wp2_with (go_at_call 92; refine (Tryd.internal_strconv_small i h _).mono ?_; rintro e w' ⟨rfl, rfl⟩)
  go_ret
  exact ⟨rfl, below_self _⟩
theorem el101 : Tryd.prog.elem 101 = 5 := by kernel_rfl
theorem al101 : Tryd.prog.arrayLen 101 = 24 := by kernel_rfl
set_option maxHeartbeats 4000000 in
set_option maxRecDepth 100000 in
theorem fmtU_big (u : Nat) (h : 100 ≤ u) (hu64 : u < 18446744073709551616) (w : World) (hE : Env w) : Calls Tryd.prog 75 #[.int .u64 (u : Int), .int .i64 10] w fun e w' => e = .returned (.string (bs (Lib.decDigits u))) ∧ Below w.heap.size w w' := by
  have htab := hE.tab
  have hu1 : 1 ≤ u := by omega
  have hnd20 : Lib.nDigits u ≤ 20 := by have := Lib.numDigits_eq u hu1 hu64; split at this <;> omega
  have hsl1 : ∀ W, (Instr.sliceAt 101 (.pointer (some ⟨w.heap.size, 0, none⟩)) none (some (.int .i64 (Lib.nDigits u : Int))) none).run Tryd.prog W = .ok (.slice (some ⟨w.heap.size, 0, none⟩) (Lib.nDigits u) 24) W := fun W => by
    rw [run_sliceAt_array_h W 101 ⟨w.heap.size, 0, none⟩ (by simp [Program.arrayLen, Program.elem, Tryd.underlying101]) .i64 (Lib.nDigits u : Int) (by omega) (by rw [al101]; omega)]
    rw [al101, el101, Tryd.sizeOf5]
    go_simp
  have hSL := Lib.hid hsl1
  have hH0 := Lib.holds_zero0 w 101 (Lib.nDigits u) (by omega)
  have hfmt := Tryd.internal_strconv_formatBase10 w.heap.size 0 24 u (Array.replicate (Lib.nDigits u) 0) (w.alloc (.cells Lib.zeros24 101)) hH0 (by rw [Array.size_replicate]; exact Lib.lt_pow_nDigits u) hu64 (by rw [Array.size_replicate]; omega)
  rw [Array.size_replicate] at hfmt
  have HH0 := Lib.hid hH0
  clear hH0
  go_enter Tryd.func75, Tryd.ntmps75
  go_wp2_with (go_at_call 93; refine (Tryd.internal_strconv_numDigits u hu1 hu64 _ (Lib.tabIs_alloc htab _)).mono ?_; rintro e w' ⟨rfl, rfl⟩)
  refine hfmt.mono ?_
  rintro e w' ⟨rfl, k, v', dk, rfl, hF⟩
  have hcv : (convert 42 9 (.slice (some ⟨w.heap.size, 0, none⟩) (Lib.nDigits u) 24)).run Tryd.prog ((putRow (fun (b : UInt8) => Value.int .u8 (b.toNat : Int)) (w.alloc (.cells Lib.zeros24 101)) w.heap.size 0 dk).drewN k) = .ok (.string (bs (Lib.decDigits u))) ((putRow (fun (b : UInt8) => Value.int .u8 (b.toNat : Int)) (w.alloc (.cells Lib.zeros24 101)) w.heap.size 0 dk).drewN k) := by
    have h := run_convert_bytes_back (P := Tryd.prog) ((putRow (fun (b : UInt8) => Value.int .u8 (b.toNat : Int)) (w.alloc (.cells Lib.zeros24 101)) w.heap.size 0 dk).drewN k) 42 9 5 ⟨w.heap.size, 0, none⟩ 24 (Lib.decDigits u) Tryd.underlying42 Tryd.underlying5 Tryd.underlying9 (fun j hj => by
      rw [Lib.row_is_numeral hF j hj, Lib.add_plain, World.cell?_drewN]
      exact cell?_putRow (fun (b : UInt8) => Value.int .u8 (b.toNat : Int)) _ w.heap.size 0 _ dk HH0.out (by rw [hF.size, Array.size_replicate]) j (by rw [hF.size]; rw [Lib.decDigits_length] at hj; exact hj))
    rw [Lib.decDigits_length] at h
    exact h
  have hB : Below w.heap.size w ((putRow (fun (b : UInt8) => Value.int .u8 (b.toNat : Int)) (w.alloc (.cells Lib.zeros24 101)) w.heap.size 0 dk).drewN k) := by
    apply below_drewN
    rw [alloc_eq_grow]
    obtain ⟨os', _, e⟩ := putRow_grow_new (fun (b : UInt8) => Value.int .u8 (b.toNat : Int)) w #[.cells Lib.zeros24 101] w.heap.size 0 dk (Nat.le_refl _)
    rw [e]; exact below_grow w os'
  clear hfmt hsl1
  have hsl2 := hSL.out
  go_wp2
  go_ret
  exact ⟨rfl, hB⟩
theorem fmtU_any (u : Nat) (hu64 : u < 18446744073709551616) (w : World) (hE : Env w) : Calls Tryd.prog 75 #[.int .u64 (u : Int), .int .i64 10] w fun e w' => e = .returned (.string (bs (Lib.decDigits u))) ∧ Below w.heap.size w w' := by
  by_cases h : u < 100
  · exact fmtU_small u h w
  · exact fmtU_big u (by omega) hu64 w hE
theorem fmtUint_any (u : Nat) (hu64 : u < 18446744073709551616) (w : World) (hE : Env w) : Calls Tryd.prog 52 #[.int .u64 (u : Int), .int .i64 10] w fun e w' => e = .returned (.string (bs (Lib.decDigits u))) ∧ Below w.heap.size w w' := by
  go_enter Tryd.func52, Tryd.ntmps52
  go_wp2_with fail
  refine (fmtU_any u hu64 _ hE).mono ?_
  rintro e w' ⟨rfl, hb⟩
  go_wp2
  go_ret
  exact ⟨rfl, hb⟩
theorem digits_any (u : Nat) (hu64 : u < 18446744073709551616) (w : World) (hE : Env w) : Calls Tryd.prog 22 #[.int .u64 (u : Int)] w fun e w' => e = .returned (.string (bs (Lib.decDigits u))) ∧ Below w.heap.size w w' := by
  go_enter Tryd.func22, Tryd.ntmps22
  go_wp2_with fail
  refine (fmtUint_any u hu64 _ hE).mono ?_
  rintro e w' ⟨rfl, hb⟩
  go_wp2
  go_ret
  exact ⟨rfl, hb⟩
theorem signed_any (n : Int) (h0 : -9223372036854775808 ≤ n) (h1 : n ≤ 9223372036854775807) (w : World) (hE : Env w) : Calls Tryd.prog 24 #[.int .i64 n] w fun e w' => e = .returned (.string (bs (Lib.itoa n))) ∧ Below w.heap.size w w' := by
  have HT := Lib.hid hE.tab
  go_enter Tryd.func24, Tryd.ntmps24
  go_wp2_with fail
  refine (Tryd.strconv_FormatInt_10 n h0 h1 _ HT.out).mono ?_
  rintro e w' ⟨rfl, k, os, rfl⟩
  have hB : Below w.heap.size w (grow (w.drewN k) os) := (below_drewN (below_self w) k).trans ((below_grow (w.drewN k) os).mono (Nat.le_refl _))
  generalize grow (w.drewN k) os = w2 at *
  go_wp2
  go_ret
  exact ⟨rfl, hB⟩

/-- A number, or an error. -/
def numR (r : Option Nat) : Ending := match r with | some u => .returned (.tuple #[.int .u64 (u : Int), .int .i64 0]) | none => .returned (.tuple #[.int .u64 0, .int .i64 19])
def intR (r : Option Int) : Ending := match r with | some u => .returned (.tuple #[.int .i64 u, .int .i64 0]) | none => .returned (.tuple #[.int .i64 0, .int .i64 19])
theorem bytesWorld_below (w : World) (t : TypeId) (s : ByteArray) : Below w.heap.size w (Lib.bytesWorld w t s) := by
  unfold Lib.bytesWorld
  have h1 : Below w.heap.size w (w.drew.alloc (.cells (Lib.bytesCells w t s) t)) := ((Below.refl _ _).drew).alloc (Nat.le_refl _) _
  generalize w.drew.alloc (.cells (Lib.bytesCells w t s) t) = w1 at h1
  unfold World.freeze
  split
  · exact h1
  · exact ⟨h1.os, h1.tape, h1.output, by simpa using h1.size, fun k hk => by
      rw [show ({ w1 with heap := w1.heap.modify w.heap.size _ } : World).heap[k]? = (w1.heap.modify w.heap.size _)[k]? from rfl, Array.getElem?_modify, if_neg (by omega)]
      exact h1.block k hk⟩
theorem str_neq {a b : ByteArray} (h : a.data.toList ≠ b.data.toList) : (!(a.toList == b.toList)) = true := by
  rw [ByteArray.toList_eq, ByteArray.toList_eq]; simpa using h
theorem str_eq {a b : ByteArray} (h : a.data.toList = b.data.toList) : a = b := ByteArray.ext (Array.toList_inj.1 h)
theorem parseU_lt (l : List UInt8) (u : Nat) (h : Lib.parseUintB 64 l = .ok u) : u < 18446744073709551616 := by
  unfold Lib.parseUintB at h
  split at h
  · cases h
  · have := parse_lt _ _ _ _ (by omega) h; omega
theorem number_any (s : ByteArray) (hs : s.size ≤ 2048) (w : World) (hE : Env w) : Calls Tryd.prog 18 #[.string s] w fun e w' => e = numR (numN s.data.toList) ∧ Below w.heap.size w w' := by
  cases hp : Lib.parseUintB 64 s.data.toList with
  | ok u =>
    have hu := parseU_lt _ u hp
    have HP := Lib.hid hp
    by_cases hd : Lib.decDigits u = s.data.toList
    · have HR := Lib.hid (show numN s.data.toList = some u by unfold numN; rw [hp]; exact if_pos hd)
      have he : bs (Lib.decDigits u) = s := by rw [hd]; exact bs_of s
      have HE := Lib.hid he
      clear hp hd he
      go_enter Tryd.func18, Tryd.ntmps18
      go_wp2_with fail
      refine (Tryd.strconv_ParseUint_10_at64_ok s (by omega) u HP.out _).mono ?_
      rintro e w1 ⟨rfl, hw1⟩
      have B1 : Below w.heap.size w w1 := by rcases hw1 with rfl | rfl; exact below_self _; exact bytesWorld_below _ _ _
      clear hw1
      go_wp2_with fail
      refine (digits_any u hu _ (hE.below B1)).mono ?_
      rintro e w2 ⟨rfl, hb⟩
      rw [HE.out]
      go_wp2
      go_ret2
      exact ⟨by rw [HR.out]; rfl, below_to B1 hb⟩
    · have HR := Lib.hid (show numN s.data.toList = none by unfold numN; rw [hp]; exact if_neg hd)
      have hne := str_neq (a := bs (Lib.decDigits u)) (b := s) (by rw [bs_toList]; exact hd)
      obtain ⟨t, ht⟩ : ∃ t, bs (Lib.decDigits u) = t := ⟨_, rfl⟩
      rw [ht] at hne
      have HT := Lib.hid ht
      clear hp hd ht
      go_enter Tryd.func18, Tryd.ntmps18
      go_wp2_with fail
      refine (Tryd.strconv_ParseUint_10_at64_ok s (by omega) u HP.out _).mono ?_
      rintro e w1 ⟨rfl, hw1⟩
      have B1 : Below w.heap.size w w1 := by rcases hw1 with rfl | rfl; exact below_self _; exact bytesWorld_below _ _ _
      clear hw1
      go_wp2_with fail
      refine (digits_any u hu _ (hE.below B1)).mono ?_
      rintro e w2 ⟨rfl, hb⟩
      rw [HT.out]
      go_wp2
      go_ret2
      exact ⟨by rw [HR.out]; rfl, below_to B1 hb⟩
  | «syntax» =>
    have HR := Lib.hid (show numN s.data.toList = none by unfold numN; rw [hp])
    have HP := Lib.hid hp
    obtain ⟨tp, p, hv⟩ := hE.syn
    have HV := Lib.hid hv
    clear hp hv
    go_enter Tryd.func18, Tryd.ntmps18
    go_wp2_with fail
    refine (Tryd.strconv_ParseUint_10_at64_syntax_var s (by omega) HP.out tp p _ HV.out).mono ?_
    rintro e w1 ⟨N, rfl, _, _, B1⟩
    go_wp2
    go_ret2
    exact ⟨by rw [HR.out]; rfl, B1⟩
  | range =>
    have HR := Lib.hid (show numN s.data.toList = none by unfold numN; rw [hp])
    have HP := Lib.hid hp
    obtain ⟨tp, p, hv⟩ := hE.rng
    have HV := Lib.hid hv
    clear hp hv
    go_enter Tryd.func18, Tryd.ntmps18
    go_wp2_with fail
    refine (Tryd.strconv_ParseUint_10_at64_range_var s (by omega) HP.out tp p _ HV.out).mono ?_
    rintro e w1 ⟨N, rfl, _, _, B1⟩
    go_wp2
    go_ret2
    exact ⟨by rw [HR.out]; rfl, B1⟩
end Go.Proofs.YtgbnmokajaehhaaDoor
