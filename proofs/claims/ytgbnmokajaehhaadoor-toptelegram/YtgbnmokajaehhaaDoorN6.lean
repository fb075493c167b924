/- Contracts: the word of a string. -/
import Derived.Test.YtgbnmokajaehhaaDoorN5
import Derived.OwnWalk
import Derived.Deep.RegionHeldLaw
import Derived.Deep.AppendLies
namespace Go.Proofs.YtgbnmokajaehhaaDoor
open Go.RowKit Go.Sort
set_option linter.unusedVariables false
theorem isPlain_any (c : Nat) (w : World) : Calls Tryd.prog 46 #[.int .u8 (c : Int)] w fun e w' => e = .returned (.bool (plainB c)) ∧ w = w' := by
  have HB : Hid (plainB c = (lowB c || uppB c || digB c || (c == 45) || (c == 95) || (c == 46))) := Lib.hid rfl
  obtain ⟨lo, hlo⟩ : ∃ lo, lowB c = lo := ⟨_, rfl⟩
  obtain ⟨di, hdi⟩ : ∃ di, digB c = di := ⟨_, rfl⟩
  have H1 : Hid (∀ w, Calls Tryd.prog 64 #[.int .u8 (c : Int)] w fun e w' => e = .returned (.bool lo) ∧ w = w') := Lib.hid (by rw [← hlo]; exact isLower_any c)
  have H2 : Hid (∀ w, Calls Tryd.prog 65 #[.int .u8 (c : Int)] w fun e w' => e = .returned (.bool di) ∧ w = w') := Lib.hid (by rw [← hdi]; exact isDigit_any c)
  rw [hlo, hdi] at HB
  obtain ⟨p, hp⟩ : ∃ p, plainB c = p := ⟨_, rfl⟩
  rw [hp] at HB ⊢
  have hupp : uppB c = (decide (65 ≤ c) && decide (c ≤ 90)) := rfl
  clear hlo hdi hp
  cases lo
  · by_cases hu : 65 ≤ c ∧ c ≤ 90
    · have HP := Lib.hid (HB.out.trans (by rw [hupp, decide_eq_true hu.1, decide_eq_true hu.2]; rfl : _ = true))
      obtain ⟨hu1, hu2⟩ := hu
      clear hupp HB
      go_enter Tryd.func46, Tryd.ntmps46
      go_wp2_with (first | (go_at_call 64; refine (H1.out _).mono ?_; rintro e w' ⟨rfl, rfl⟩) | (go_at_call 65; refine (H2.out _).mono ?_; rintro e w' ⟨rfl, rfl⟩))
      go_ret
      exact ⟨ret_bool (by rw [HP.out]), rfl⟩
    · have hU : uppB c = false := by rw [hupp]; simp; omega
      rw [hU] at HB
      clear hupp hU
      have HH : ∀ b, p = b → (b = (di || (c == 45) || (c == 95) || (c == 46))) → Hid (p = b) := fun b h _ => Lib.hid h
      have HB' : p = (di || (c == 45) || (c == 95) || (c == 46)) := by rw [HB.out]; cases di <;> rfl
      clear HB HH
      by_cases hq : 65 ≤ c
      · have hq2 : ¬ c ≤ 90 := by omega
        have HB := Lib.hid HB'
        clear HB' hu
        cases di
        all_goals
         go_enter Tryd.func46, Tryd.ntmps46
         go_wp2_with (first | (go_at_call 64; refine (H1.out _).mono ?_; rintro e w' ⟨rfl, rfl⟩) | (go_at_call 65; refine (H2.out _).mono ?_; rintro e w' ⟨rfl, rfl⟩))
         all_goals
          go_ret
          exact ⟨ret_bool (by rw [HB.out, Bool.eq_iff_iff]; simp; try omega), rfl⟩
      · have HB := Lib.hid HB'
        clear HB' hu
        cases di
        all_goals
         go_enter Tryd.func46, Tryd.ntmps46
         go_wp2_with (first | (go_at_call 64; refine (H1.out _).mono ?_; rintro e w' ⟨rfl, rfl⟩) | (go_at_call 65; refine (H2.out _).mono ?_; rintro e w' ⟨rfl, rfl⟩))
         all_goals
          go_ret
          exact ⟨ret_bool (by rw [HB.out, Bool.eq_iff_iff]; simp; try omega), rfl⟩
  · have HP := Lib.hid (HB.out.trans (by simp : _ = true))
    clear HB hupp
    go_enter Tryd.func46, Tryd.ntmps46
    go_wp2_with (first | (go_at_call 64; refine (H1.out _).mono ?_; rintro e w' ⟨rfl, rfl⟩) | (go_at_call 65; refine (H2.out _).mono ?_; rintro e w' ⟨rfl, rfl⟩))
    go_ret
    exact ⟨ret_bool HP.out.symm, rfl⟩
theorem info5 : (Tryd.prog.info? 5).map (fun i => (i.zero, i.size, i.bytes)) = some (some (.int .u8 0), 1, 1) := by kernel_rfl
def u8V (c : UInt8) : Value := .int .u8 (c.toNat : Int)
/-- A slice of bytes that the call made. -/
structure ByRow (w0 : World) (l : List UInt8) (v : Value) (wx : World) : Prop where
  own : wx.ownsRow w0.heap.size 5 1 v l.length (l.map u8V)
  below : Below w0.heap.size w0 wx
theorem ByRow.snoc {w0 wr w1 : World} {l m : List UInt8} {v v' : Value} {o : Obj} (h : ByRow w0 l v wr)
    (hown : w1.ownsRow w0.heap.size 5 1 v' (l.length + m.length) (l.map u8V ++ m.map u8V)) (hg : (wr.alloc o).grownBy w1 v.ownBlock) : ByRow w0 (l ++ m) v' w1 :=
  ⟨by rw [List.length_append, List.map_append]; exact hown, (h.below.alloc h.below.size o).grown hg (by have := h.below.size; simp; omega) (fun j hj => (h.own.lt j hj).1)⟩
theorem ByRow.start (w : World) : ByRow w [] (.slice none 0 0) w := ⟨World.ownsRow_nil _ _ _ _, Below.refl _ _⟩
theorem ByRow.str {w0 wx : World} {l : List UInt8} {v : Value} (h : ByRow w0 l v wx) (hl : 0 < l.length) : (convert 42 9 v).run Tryd.prog wx = .ok (.string (bs l)) wx := by
  rcases h.own.2 with ⟨_, h0⟩ | ⟨g, cap, cur, rfl, hb, hg, hn, hm, hsz, htk⟩
  · omega
  · refine run_convert_bytes_back (P := Tryd.prog) wx 42 9 5 ⟨g, 0, none⟩ cap l Tryd.underlying42 Tryd.underlying5 Tryd.underlying9 (fun j hj => ?_)
    rw [Lib.add_plain]
    have hc : cur[j]? = some (u8V l[j]) := by
      have : (cur.toList.take (l.length * 1))[j]? = (l.map u8V)[j]? := by rw [htk]
      rw [List.getElem?_take, if_pos (by omega)] at this
      simpa [hj] using this
    simp only [World.cell?, hg]
    simpa [u8V] using hc
def hexB (d : Nat) : UInt8 := ([48, 49, 50, 51, 52, 53, 54, 55, 56, 57, 65, 66, 67, 68, 69, 70] : List UInt8).getD d 0
def wordC (c : UInt8) : List UInt8 := if plainB c.toNat then [c] else [37, hexB (c.toNat / 16), hexB (c.toNat % 16)]
def wordL (l : List UInt8) : List UInt8 := l.flatMap wordC
theorem and15 : ∀ c : Fin 256, bits .and .u8 ((c.val : Nat) : Int) 15 = ((c.val % 16 : Nat) : Int) := by decide +kernel
theorem hex_at (d : Nat) (h : d < 16) : (ByteArray.mk #[48, 49, 50, 51, 52, 53, 54, 55, 56, 57, 65, 66, 67, 68, 69, 70])[d]'h = hexB d := by
  have : d = 0 ∨ d = 1 ∨ d = 2 ∨ d = 3 ∨ d = 4 ∨ d = 5 ∨ d = 6 ∨ d = 7 ∨ d = 8 ∨ d = 9 ∨ d = 10 ∨ d = 11 ∨ d = 12 ∨ d = 13 ∨ d = 14 ∨ d = 15 := by omega
  rcases this with rfl | rfl | rfl | rfl | rfl | rfl | rfl | rfl | rfl | rfl | rfl | rfl | rfl | rfl | rfl | rfl <;> rfl
theorem wordL_snoc (l : List UInt8) (c : UInt8) : wordL (l ++ [c]) = wordL l ++ wordC c := by simp [wordL]
theorem wordC_le (c : UInt8) : 1 ≤ (wordC c).length ∧ (wordC c).length ≤ 3 := by unfold wordC; split <;> simp
theorem wordL_le (l : List UInt8) : l.length ≤ (wordL l).length ∧ (wordL l).length ≤ 3 * l.length := by
  induction l with
  | nil => simp [wordL]
  | cons c l ih =>
    have := wordC_le c
    have e : wordL (c :: l) = wordC c ++ wordL l := by simp [wordL]
    rw [e]; simp; omega
theorem word_nil (w : World) : Calls Tryd.prog 11 #[.string ByteArray.empty] w fun e w' => e = .returned (.string (bs [37])) ∧ w = w' := by
  go_enter Tryd.func11, Tryd.ntmps11
  go_wp2
  go_ret
  exact ⟨rfl, rfl⟩
set_option maxRecDepth 20000 in
set_option maxHeartbeats 1000000 in
theorem word_any (s : ByteArray) (h0 : 0 < s.size) (hs : s.size ≤ 1048576) (w : World) : Calls Tryd.prog 11 #[.string s] w fun e w' => e = .returned (.string (bs (wordL s.data.toList))) ∧ Below w.heap.size w w' := by
  obtain ⟨i0, hi, hz0, hz1, hz2⟩ := info_parts info5
  have hne : s.toList.isEmpty = false := by rw [ByteArray.toList_eq]; cases hl : s.data.toList with
    | nil => rw [blen, hl] at h0; cases h0
    | cons c l => rfl
  go_enter Tryd.func11, Tryd.ntmps11
  go_wp2
  go_loopw [3, 9] (fun v i wx => ∃ (k : Nat) (l : List UInt8), k ≤ s.size ∧ Hid (l = wordL (s.data.toList.take k)) ∧ ByRow w l v wx ∧ i = .int .i64 (k : Int)) (fun _ i _ => s.size - (intOf i).toNat)
  case atStart => exact ⟨0, [], by omega, Lib.hid rfl, ByRow.start w, rfl⟩
  case round =>
    obtain ⟨k, l, hk, HL, hS, rfl⟩ := hrel
    clear hne
    have hll : l.length ≤ 3 * 1048576 := by
      have := (wordL_le (s.data.toList.take k)).2
      rw [← HL.out] at this
      simp at this; omega
    have hown := hS.own
    have hbl2 := hS.below
    by_cases hlt : k < s.size
    · have hts := Lib.hid (take_snoc8 s k hlt)
      have hcl : s[k].toNat < 256 := s[k].toNat_lt
      have hpl := Lib.hid (isPlain_any s[k].toNat)
      cases hp : plainB s[k].toNat with
      | true =>
        have HW := Lib.hid (show wordC s[k] = [s[k]] by unfold wordC; rw [hp]; rfl)
        rw [hp] at hpl
        clear hp
        go_wp2_with (first
          | (go_at_call 46; refine (hpl.out _).mono ?_; rintro e w' ⟨rfl, rfl⟩)
          | (at_builtin; refine wpList_append_own _ rfl _ _ 42 rfl w.heap.size 5 i0 (.int .u8 0) 1 1 Tryd.underlying42 hi hz0 hz1 hz2 rfl (by decide) _ _ _ rfl (hown.alloc _) ⟨wr.heap.size, 0, none⟩ 1 1 [u8V s[k]] rfl rfl ?c1 ?c2 ?c3 ?c4 ?c5 ?_))
        case c1 =>
          intro j u hj
          match j, hj with
          | 0, hj => simp at hj; subst hj; simp [Addr.add, u8V]
        case c2 => intro u hu; simp at hu; subst hu; rfl
        case c3 => unfold maxLen; omega
        case c4 => omega
        case c5 => have := hbl2.size; simp; omega
        intro v' w4 hown' hgrow _
        have hS' := hS.snoc (m := [s[k]]) hown' hgrow
        clear hown' hgrow hown hbl2 hS hcl
        go_wp2
        go_roundw
        case rel => exact ⟨k + 1, _, by omega, Lib.hid (by rw [hts.out, wordL_snoc, ← HL.out, HW.out]), hS', by simp⟩
        case measure => simp [intOf]; omega
      | false =>
        have HW := Lib.hid (show wordC s[k] = [37, hexB (s[k].toNat / 16), hexB (s[k].toNat % 16)] by unfold wordC; rw [hp]; rfl)
        rw [hp] at hpl
        clear hp
        go_wp2_with (first
          | (go_at_call 46; refine (hpl.out _).mono ?_; rintro e w' ⟨rfl, rfl⟩))
        obtain ⟨d1, hd1, hd1', HD1⟩ : ∃ d : Nat, (s[k].toNat : Int) / 16 = (d : Int) ∧ (d : Int) < 16 ∧ Hid (s[k].toNat / 16 = d) := ⟨s[k].toNat / 16, by omega, by omega, Lib.hid rfl⟩
        obtain ⟨d2, hd2, hd2', HD2⟩ : ∃ d : Nat, bits .and .u8 (s[k].toNat : Int) 15 = (d : Int) ∧ (d : Int) < 16 ∧ Hid (s[k].toNat % 16 = d) := ⟨s[k].toNat % 16, and15 ⟨_, hcl⟩, by omega, Lib.hid rfl⟩
        have hx1 := hex_at d1 (by omega)
        have hx2 := hex_at d2 (by omega)
        rw [HD1.out, HD2.out] at HW
        have hS0 : ByRow w l u3 wr.drew := ⟨hS.own, hS.below.drew⟩
        clear hown hbl2 hS
        have hown := hS0.own
        have hbl2 := hS0.below
        have hH : w.heap.size ≤ wr.heap.size := hbl2.size
        have hnews := World.news_of_block (heap_alloc_new wr.drew (.cells #[u8V 37, u8V (hexB d1), u8V (hexB d2)] 5))
        have h1c : ∀ u ∈ [u8V 37, u8V (hexB d1), u8V (hexB d2)], u.oneCell' = true := by intro u hu; simp at hu; rcases hu with rfl | rfl | rfl <;> rfl
        have HO := Lib.hid hown
        have HN := Lib.hid hnews
        have H1C := Lib.hid h1c
        clear hown hnews h1c
        go_region_held_law (fun _ => True) (trivial) ((refine step_append_lies _ (by rfl) (.tmp 22) (.tmp 33) 42 (by rfl) w.heap.size 5 i0 (.int .u8 0) 1 1 Tryd.underlying42 hi hz0 hz1 hz2 (by rfl) (by decide) u3 l.length (l.map u8V) (by rfl) (HO.out.alloc _) ⟨wr.heap.size, 0, none⟩ 3 3 [u8V 37, u8V (hexB d1), u8V (hexB d2)] (by rfl) (by rfl) HN.out H1C.out (by decide) (by unfold maxLen; omega) (by omega) (by simp; omega) _ (by rfl) ?_; intro g cap w4 hown' hgrow hat hlt4))
        all_goals
          have hS' := hS0.snoc (m := [37, hexB d1, hexB d2]) hown' hgrow
          clear hown' hgrow hS0 hcl hat hlt4 hd1 hd2 hx1 hx2
          go_wp2
          go_roundw
          case rel => exact ⟨k + 1, _, by omega, Lib.hid (by rw [hts.out, wordL_snoc, ← HL.out, HW.out]), hS', by simp⟩
          case measure => simp [intOf]; omega
    · obtain rfl : k = s.size := by omega
      have hl2 : l = wordL s.data.toList := by rw [HL.out, blen, List.take_length]
      subst hl2
      have hcv := hS.str (by have := (wordL_le s.data.toList).1; rw [← blen] at this; omega)
      clear hown HL
      go_wp2
      go_ret
      exact ⟨rfl, hbl2⟩
end Go.Proofs.YtgbnmokajaehhaaDoor
