/- ViterbiBest: no message that is tried has a greater sum than the one that Decode returns, or the same sum and is less; its sum is its Score (of messages of at most 200 bytes). No condition. -/
import Derived.Test.YtgfihljledmaaaaRowKit
import Derived.Test.YtgfihljledmaaaaVitAwake
import Derived.Test.YtgfihljledmaaaaVitCor
import Derived.Test.YtgfihljledmaaaaPickKit
import Derived.Test.YtgfihljledmaaaaFlipKit
namespace Go.Proofs.Ytgfihljledmaaaa
open Go.ChangeShapes Go.WideShapes Go.ChangeAt Go.RowKit
set_option linter.unusedVariables false

namespace viterbiBest
theorem cells_i8 : Try.prog.cellsOf 59 = 1 := by kernel_rfl
theorem info_str : (Try.prog.info? 9).map (fun i => (i.zero, i.size, i.bytes)) = some (some (.string ⟨#[]⟩), 1, 16) := by kernel_rfl
theorem wf_small (i : Nat) (h : i < 1000000) : (Lit.int .i64 (i : Int)).wf = true := by
  have a : IntKind.i64.min ≤ (i : Int) := Int.le_trans (show IntKind.i64.min ≤ 0 by decide) (by omega)
  have b : (i : Int) ≤ IntKind.i64.max := Int.le_trans (show (i : Int) ≤ 1000000 by omega) (by decide)
  show (decide (IntKind.i64.min ≤ (i : Int)) && decide ((i : Int) ≤ IntKind.i64.max)) = true
  rw [decide_eq_true a, decide_eq_true b]
  rfl
/-- Messages of m bytes. -/
def Strs (m : Nat) (tl : List Value) : Prop := ∀ u ∈ tl, ∃ s : ByteArray, u = .string s ∧ s.size = m
theorem Strs.snoc {m : Nat} {tl : List Value} (h : Strs m tl) {t : ByteArray} (ht : t.size = m) : Strs m (tl ++ [.string t]) := fun u hu => by
  rcases List.mem_append.1 hu with q | q
  · exact h u q
  · exact ⟨t, by simpa using q, ht⟩
theorem strs_two {m : Nat} {a b : ByteArray} (ha : a.size = m) (hb : b.size = m) : Strs m [.string a, .string b] := fun u hu => by
  simp only [List.mem_cons, List.not_mem_nil, or_false] at hu
  rcases hu with q | q
  · exact ⟨a, q, ha⟩
  · exact ⟨b, q, hb⟩
theorem own_two {w : World} {base : Nat} {t : TypeId} (a b : Value) (hb : base ≤ w.heap.size) : (w.alloc (.cells #[a, b] t)).ownsRow base t 1 (.slice (some ⟨w.heap.size, 0, none⟩) 2 2) 2 [a, b] :=
  ⟨rfl, .inr ⟨w.heap.size, 2, #[a, b], rfl, hb, heap_alloc_last w _, Nat.le_refl _, by unfold maxLen; omega, rfl, rfl⟩⟩
theorem strs_get {w : World} {base t g cap n m : Nat} {tl : List Value} (h : w.ownsRow base t 1 (.slice (some ⟨g, 0, none⟩) n cap) n tl) (hs : Strs m tl) : ∀ j, j < n → ∃ s : ByteArray, s.size = m ∧ ∀ w', Below w.heap.size w w' → w'.cell? ⟨g, j, none⟩ = some (.string s) := fun j hj => by
  have c := h.cellAt j (by omega)
  have jl : j < tl.length := by rw [h.1]; omega
  rw [List.getElem?_eq_getElem jl] at c
  obtain ⟨s, e, es⟩ := hs _ (List.getElem_mem jl)
  rw [e] at c
  have lt : g < w.heap.size := by
    rcases h.2 with ⟨q, _⟩ | ⟨g', _, _, q, _, hg, _⟩
    · cases q
    · simp only [Value.slice.injEq, Option.some.injEq, Addr.mk.injEq] at q
      obtain ⟨⟨rfl, _⟩, _⟩ := q
      exact (Array.getElem?_eq_some_iff.1 hg).1
  exact ⟨s, es, fun w' hb => (hb.cell (p := ⟨g, j, none⟩) lt).trans c⟩
theorem num_nb (l : List UInt8) : ∀ k, k ≤ l.length → Vit.nb 256 (l.take k) = Vit.num (Gal.co l) k
  | 0, _ => by simp [Vit.nb, Vit.num]
  | k + 1, h => by
    rw [List.take_succ_eq_append_getElem (by omega), Vit.nb_snoc, num_nb l k (by omega)]
    show _ = 256 * Vit.num (Gal.co l) k + (Gal.co l k).toNat
    rw [Gal.co_nat, List.getD_eq_getElem?_getD, List.getElem?_eq_getElem (by omega)]
    rfl
theorem not_less {s D : ByteArray} {m : Nat} (hs : s.size = m) (hD : D.size = m) (h : Vit.num (Gal.co D.data.toList) m ≤ Vit.num (Gal.co s.data.toList) m) : Op.bytesLess s.toList D.toList = false := by
  rw [ByteArray.toList_eq, ByteArray.toList_eq, Vit.less_nb 256 (by omega) _ _ (by rw [ls, ls, hs, hD]) (fun x _ => UInt8.toNat_lt x) (fun x _ => UInt8.toNat_lt x)]
  have a := num_nb s.data.toList m (by rw [ls, hs]; omega)
  have b := num_nb D.data.toList m (by rw [ls, hD]; omega)
  rw [List.take_of_length_le (by rw [ls, hs]; omega)] at a
  rw [List.take_of_length_le (by rw [ls, hD]; omega)] at b
  rw [a, b]
  exact decide_eq_false (by omega)
set_option maxRecDepth 100000 in
set_option maxHeartbeats 2000000 in
theorem walk (d : ByteArray) (hd : d.size ≤ maxLen) (ao : Option Addr) (cap : Nat) (zs : List Int) (hl : zs.length ≤ cap) (hm : cap ≤ maxLen) (hw : ∀ n ∈ zs, (Lit.int .i8 n).wf = true) (o : ByteArray) (ho : o.size ≤ maxLen) (w : World) (hr : Reads .i8 w ao zs) :
    Calls Try.prog 5 #[.string d, .slice ao zs.length cap, .string o] w fun e w' => e = .returned (.bool true) ∧ Below w.heap.size w w' := by
  unfold maxLen at hm hd ho
  have AW := Lib.hid (fun w => awake_any w)
  have R0 := Lib.hid (noise_arg hr hw)
  obtain ⟨K, hK⟩ : ∃ N, zs.length = N := ⟨_, rfl⟩
  obtain ⟨m, hn⟩ : ∃ k, d.size = k := ⟨_, rfl⟩
  obtain ⟨q, hq⟩ : ∃ k, o.size = k := ⟨_, rfl⟩
  rw [hK] at hl ⊢
  rw [hn] at hd
  rw [hq] at ho
  clear hr hw
  by_cases h1 : 200 < m
  · have h1' : decide ((200 : Int) < (m : Int)) = true := by simp; omega
    clear R0
    go_enter Try.func5, Try.ntmps5
    go_wp2_with fail
    (with_reducible refine (AW.out _).mono ?_)
    rintro e w1 ⟨rfl, h1⟩
    go_wp2_with fail
    go_ret
    exact ⟨rfl, h1⟩
  have h1' : decide ((200 : Int) < (m : Int)) = false := by simp; omega
  by_cases h2 : 5000 < K
  · have h2' : decide ((5000 : Int) < (K : Int)) = true := by simp; omega
    clear R0
    go_enter Try.func5, Try.ntmps5
    go_wp2_with fail
    (with_reducible refine (AW.out _).mono ?_)
    rintro e w1 ⟨rfl, h1⟩
    go_wp2_with fail
    go_ret
    exact ⟨rfl, h1⟩
  have h2' : decide ((5000 : Int) < (K : Int)) = false := by simp; omega
  by_cases h3 : 200 < q
  · have h3' : decide ((200 : Int) < (q : Int)) = true := by simp; omega
    clear R0
    go_enter Try.func5, Try.ntmps5
    go_wp2_with fail
    (with_reducible refine (AW.out _).mono ?_)
    rintro e w1 ⟨rfl, h1⟩
    go_wp2_with fail
    go_ret
    exact ⟨rfl, h1⟩
  have h3' : decide ((200 : Int) < (q : Int)) = false := by simp; omega
  have RC := Lib.hid (received_any d m hn (by omega) ao cap zs K hK (by omega) w R0.out)
  obtain ⟨i0, hi0, hz0, hz1, hz2⟩ := info_parts info_u8
  obtain ⟨j0, hj0, hx0, hx1, hx2⟩ := info_parts info_str
  clear R0 hK
  go_enter Try.func5, Try.ntmps5
  go_wp2_with fail
  (with_reducible refine RC.out.mono ?_)
  rintro e w1 ⟨lb, lc, f, rfl, ge, iw, so, hb1⟩
  have B1 := Lib.hid hb1
  have I1 := Lib.hid iw.ints
  have P := Lib.hid (fun w R => decode_any (some ⟨lb, 0, none⟩) lc (zof f (16 * m + 12)) (16 * m + 12) (zof_len _ _) (by omega) (m : Int) w R ge.2)
  have OK := Lib.hid (dcOk_of (n := m) (by omega) (zof_len f _) (softOk_zof so))
  have SC := Lib.hid (show ∀ s : ByteArray, s.size = m → ∀ w, Ints w (some ⟨lb, 0, none⟩) (zof f (16 * m + 12)) → Calls Try.prog 14 #[.slice (some ⟨lb, 0, none⟩) (16 * m + 12) lc, .string s] w fun e w' => e = .returned (.tuple #[.int .i64 (Vit.msum (fz (zof f (16 * m + 12))) m (Gal.co s.data.toList)), .int .i64 0]) ∧ Below w.heap.size w w' from fun s hs w R => by
    have := score_any (some ⟨lb, 0, none⟩) lc (zof f (16 * m + 12)) (16 * m + 12) (zof_len _ _) (by omega) s w R
    rw [scV_yes (n := m) rfl (by omega) hs so] at this
    exact this)
  clear ge iw so hb1 RC
  obtain ⟨F, hF⟩ : ∃ F, fz (zof f (16 * m + 12)) = F := ⟨_, rfl⟩
  rw [hF] at SC
  obtain ⟨ZS, hZ⟩ : ∃ z, zof f (16 * m + 12) = z := ⟨_, rfl⟩
  rw [hZ] at I1 P OK SC hF
  obtain ⟨N, hN⟩ : ∃ N, 16 * m + 12 = N := ⟨_, rfl⟩
  rw [hN] at P SC ⊢
  have N2 : N ≤ 3212 := by omega
  go_wp2_with fail
  (with_reducible refine (P.out _ I1.out).mono ?_)
  rintro e w2 ⟨q2, h2⟩
  rcases decA_cases q2 with ⟨_, D, g1, g2, rfl⟩ | ⟨q, _⟩
  rotate_left
  · exact absurd OK.out q
  rw [hF] at g2 ⊢
  have sD : D.size = m := by rw [g1]; rfl
  have g2 : Vit.Top F m (Gal.co D.data.toList) := g2
  have SD := Lib.hid (SC.out D sD)
  obtain ⟨y, hy⟩ : ∃ y, Vit.msum F m (Gal.co D.data.toList) = y := ⟨_, rfl⟩
  have TOP := Lib.hid (show ∀ s : ByteArray, s.size = m → Vit.msum F m (Gal.co s.data.toList) ≤ y ∧ (Vit.msum F m (Gal.co s.data.toList) = y → Op.bytesLess s.toList D.toList = false) from fun s hs => by
    rcases g2 (Gal.co s.data.toList) with q | ⟨q, r⟩
    · rw [← hy]
      exact ⟨by omega, fun e => by omega⟩
    · rw [← hy]
      exact ⟨by omega, fun _ => not_less hs sD r⟩)
  rw [hy] at SD
  rw [show Vit.msum F (m : Int).toNat (Gal.co D.data.toList) = y from hy]
  have B2 := Lib.hid (bt B1.out h2)
  have I2 := Lib.hid (I1.out.below h2)
  clear q2 h2 g1 g2 hy hF hZ OK P B1 I1
  go_wp2_with fail
  (with_reducible refine (SD.out _ I2.out).mono ?_)
  rintro e wz ⟨rfl, h3⟩
  have B2 := Lib.hid (bt B2.out h3)
  have I2 := Lib.hid (I2.out.below h3)
  clear h3 SD
  have yy : ((y : Int) != y) = false := by simp
  have mm : ((m : Int) != (m : Int)) = false := by simp
  have DM := Lib.hid hn
  have OM := Lib.hid hq
  go_upto_region 9 with (first
    | (at_make; refine wpList_make_full _ rfl _ _ 37 rfl wz.heap.size 5 i0 (.int .u8 0) 1 Try.underlying37 hi0 hz0 hz1 .i64 .i64 _ _ m rfl rfl (by first | rfl | omega) (by first | rfl | omega) (by rw [hz2]; omega) (by unfold maxLen; omega) (Nat.le_refl _) ?_; intro w4 hown hgrow; have CV := Lib.hid (own_back (f := fun _ => 0#8) (by have := hown; rw [show (madeCells (Value.int IntKind.u8 0).cells (m * 1)).toList = vals (fun _ => 0#8) m from by rw [Nat.mul_one]; exact (toList_madeCells_one _ _).trans (by unfold vals; simp [List.map_const'])] at this; exact this)); have B4 := Lib.hid ((Below.refl wz.heap.size wz).grown hgrow (Nat.le_refl _) (fun k e => by cases e)); obtain ⟨Z, hZ⟩ : ∃ Z, ByteArray.mk (Gal.coefs (fun _ => 0#8) m).toArray = Z := ⟨_, rfl⟩; rw [hZ] at CV; have S2 := Lib.hid (strs_two DM.out (show Z.size = m from by rw [← hZ]; exact coefs_size _ _)); clear hown hgrow hZ)
    | simp only [CV.out])
  have HO := Lib.hid (own_two (w := w4) (t := 9) (.string d) (.string Z) B4.out.size)
  have B5 := Lib.hid (ba B4.out (.cells #[.string d, .string Z] 9))
  obtain ⟨tb, htb⟩ : ∃ x, w4.heap.size = x := ⟨_, rfl⟩
  obtain ⟨w5, hw5⟩ : ∃ x, w4.alloc (.cells #[.string d, .string Z] 9) = x := ⟨_, rfl⟩
  rw [hw5, htb] at HO
  rw [hw5] at B5
  rw [hw5, htb]
  clear hw5 htb B4 CV
  by_cases g : m ≤ q
  · have t7 : decide ((m : Int) ≤ (q : Int)) = true := by simp; omega
    have t8 : (m : Int) ≤ (q : Int) := by omega
    have OS := Lib.hid (show (o.extract 0 m).size = m by simp; omega)
    have BA := Lib.hid (ba B5.out (.cells #[.string (o.extract 0 m)] 9))
    go_wp2_with (at_builtin; go_loud (refine wpList_append_own _ rfl _ _ 38 rfl wz.heap.size 9 j0 (.string ⟨#[]⟩) 1 16 Try.underlying38 hj0 hx0 hx1 hx2 rfl (by decide) _ _ _ rfl (HO.out.alloc _) ⟨w5.heap.size, 0, none⟩ 1 1 [.string (o.extract 0 m)] rfl rfl cell_one (by simp [Value.oneCell']) (by unfold maxLen; omega) (by omega) (by have := BA.out.size; simp at this ⊢; omega) ?_); intro v' w9 hown2 hgrow _; obtain ⟨g', cap', rfl⟩ := ownsRow_succ hown2; have HO2 := Lib.hid hown2; have BW := Lib.hid (BA.out.grown hgrow BA.out.size (fun k e => own_block_ge HO.out e)); clear hown2 hgrow)
    have HT := HO2
    have ST := Lib.hid (S2.out.snoc OS.out)
    have B8 := BW
    clear OS HO2 BW HO S2 B5
    go_loopw [13, 14] (fun v x wr => ∃ (i n : Nat) (tl : List Value), i ≤ 8 * m ∧ x = .int .i64 (i : Nat) ∧ 2 ≤ n ∧ n ≤ i + 3 ∧ i ≤ 400 ∧ wr.ownsRow wz.heap.size 9 1 v n tl ∧ Strs m tl ∧ Below wz.heap.size wz wr) (fun _ x _ => 8 * m - (intOf x).toNat)
    case atStart => exact ⟨0, _, _, Nat.zero_le _, rfl, by omega, by omega, by omega, HT.out, ST.out, B8.out⟩
    case round =>
      obtain ⟨i, n, tl, hi, rfl, hn2, hni, hi4, hown, hst, hB⟩ := hrel
      have HO := Lib.hid hown
      have SS := Lib.hid hst
      have B9 := Lib.hid hB
      have SL := Lib.hid (own_slen hown)
      clear hst hB HT ST B8
      have w8 : IntKind.i64.wrap (8 * (m : Int)) = 8 * (m : Int) := by rw [IntKind.wrap_i64]; omega
      by_cases hlt : i < 8 * m ∧ i < 400
      · obtain ⟨l1, l2⟩ := hlt
        have t1 : decide ((i : Int) < 8 * (m : Int)) = true := by simp; omega
        have t2 : decide ((i : Int) < 400) = true := by simp; omega
        have FL := Lib.hid (fun w => kflip_size D m sD (by omega) (by omega) (i : Int) (wf_small i (by omega)) w)
        clear hown
        go_wp2_with fail
        (with_reducible refine (FL.out _).mono ?_)
        rintro e w10 ⟨⟨t, rfl, st⟩, h10⟩
        have TS := Lib.hid st
        have HO1 := Lib.hid (own_below HO.out h10)
        have BA := Lib.hid (ba (bt B9.out h10) (.cells #[.string t] 9))
        clear h10 st B9 FL HO
        go_wp2_with (at_builtin; go_loud (refine wpList_append_own _ rfl _ _ 38 rfl wz.heap.size 9 j0 (.string ⟨#[]⟩) 1 16 Try.underlying38 hj0 hx0 hx1 hx2 rfl (by decide) _ _ _ rfl (HO1.out.alloc _) ⟨w10.heap.size, 0, none⟩ 1 1 [.string t] rfl rfl cell_one (by simp [Value.oneCell']) (by unfold maxLen; omega) (by omega) (by have := BA.out.size; simp at this ⊢; omega) ?_); intro v' w9 hown2 hgrow _; obtain ⟨g', cap', rfl⟩ := ownsRow_succ hown2; have HO2 := Lib.hid hown2; have BW := Lib.hid (BA.out.grown hgrow BA.out.size (fun k e => own_block_ge HO1.out e)); clear hown2 hgrow)
        go_roundw
        case rel => exact ⟨i + 1, n + 1, _, by omega, by go_num, by omega, by omega, by omega, HO2.out, SS.out.snoc TS.out, BW.out⟩
        case measure => simp [intOf]; omega
      · obtain ⟨g, cap, rfl⟩ := own_slice hown (by omega)
        have SG := Lib.hid (strs_get hown SS.out)
        have HN2 := Lib.hid hni
        clear hown SL SS
        by_cases l1 : i < 8 * m
        · have t1 : decide ((i : Int) < 8 * (m : Int)) = true := by simp; omega
          have t2 : decide ((i : Int) < 400) = false := by simp; omega
          go_wp2_with fail
          go_loopw [15] (fun x w' => ∃ j : Nat, j ≤ n ∧ x = .int .i64 (j : Nat) ∧ Below wr.heap.size wr w') (fun x _ => n - (intOf x).toNat)
          case atStart => exact ⟨0, Nat.zero_le _, rfl, Below.refl _ _⟩
          case round =>
            obtain ⟨j, hj, rfl, hB⟩ := hrel
            have B10 := Lib.hid hB
            clear hB
            by_cases hjn : j < n
            · have t3 : decide ((j : Int) < (n : Int)) = true := by simp; omega
              have jn : (j : Int) < (n : Int) := by omega
              obtain ⟨t, st, cs⟩ := SG.out j hjn
              have C1 := Lib.hid (fun w' hb => cs w' hb)
              have c1 := cs _ B10.out
              have SC1 := Lib.hid (SC.out t st)
              have TT := Lib.hid (TOP.out t st)
              obtain ⟨z, hz⟩ : ∃ z, Vit.msum F m (Gal.co t.data.toList) = z := ⟨_, rfl⟩
              rw [hz] at SC1 TT
              clear hz cs SC TOP
              go_wp2_with fail
              (with_reducible refine (SC1.out _ (I2.out.below (bt B9.out B10.out))).mono ?_)
              rintro e w11 ⟨rfl, h11⟩
              have c2 := C1.out _ (bt B10.out h11)
              have B11 := Lib.hid (bt B10.out h11)
              clear h11 B10 SC1 C1 c1
              by_cases e : z = y
              · subst e
                have lb := TT.out.2 rfl
                have t4 : decide (z < z) = false := by simp
                have t5 : (z == z) = true := by simp
                clear TT
                go_wp2_with fail
                go_roundw
                case rel => exact ⟨j + 1, by omega, by go_num, B11.out⟩
                case measure => simp [intOf]; omega
              · have t4 : decide (y < z) = false := by have := TT.out.1; simp; omega
                have t5 : (z == y) = false := by simp; exact e
                clear TT e
                go_wp2_with fail
                go_roundw
                case rel => exact ⟨j + 1, by omega, by go_num, B11.out⟩
                case measure => simp [intOf]; omega
            · have t3 : decide ((j : Int) < (n : Int)) = false := by simp; omega
              clear SG SC TOP
              go_wp2_with fail
              (with_reducible refine (AW.out _).mono ?_)
              rintro e w12 ⟨rfl, h12⟩
              have B12 := Lib.hid (bt (bt B2.out (bt B9.out B10.out)) h12)
              clear h12
              go_wp2_with fail
              go_ret
              exact ⟨rfl, B12.out⟩
        · have t1 : decide ((i : Int) < 8 * (m : Int)) = false := by simp; omega
          go_wp2_with fail
          go_loopw [15] (fun x w' => ∃ j : Nat, j ≤ n ∧ x = .int .i64 (j : Nat) ∧ Below wr.heap.size wr w') (fun x _ => n - (intOf x).toNat)
          case atStart => exact ⟨0, Nat.zero_le _, rfl, Below.refl _ _⟩
          case round =>
            obtain ⟨j, hj, rfl, hB⟩ := hrel
            have B10 := Lib.hid hB
            clear hB
            by_cases hjn : j < n
            · have t3 : decide ((j : Int) < (n : Int)) = true := by simp; omega
              have jn : (j : Int) < (n : Int) := by omega
              obtain ⟨t, st, cs⟩ := SG.out j hjn
              have C1 := Lib.hid (fun w' hb => cs w' hb)
              have c1 := cs _ B10.out
              have SC1 := Lib.hid (SC.out t st)
              have TT := Lib.hid (TOP.out t st)
              obtain ⟨z, hz⟩ : ∃ z, Vit.msum F m (Gal.co t.data.toList) = z := ⟨_, rfl⟩
              rw [hz] at SC1 TT
              clear hz cs SC TOP
              go_wp2_with fail
              (with_reducible refine (SC1.out _ (I2.out.below (bt B9.out B10.out))).mono ?_)
              rintro e w11 ⟨rfl, h11⟩
              have c2 := C1.out _ (bt B10.out h11)
              have B11 := Lib.hid (bt B10.out h11)
              clear h11 B10 SC1 C1 c1
              by_cases e : z = y
              · subst e
                have lb := TT.out.2 rfl
                have t4 : decide (z < z) = false := by simp
                have t5 : (z == z) = true := by simp
                clear TT
                go_wp2_with fail
                go_roundw
                case rel => exact ⟨j + 1, by omega, by go_num, B11.out⟩
                case measure => simp [intOf]; omega
              · have t4 : decide (y < z) = false := by have := TT.out.1; simp; omega
                have t5 : (z == y) = false := by simp; exact e
                clear TT e
                go_wp2_with fail
                go_roundw
                case rel => exact ⟨j + 1, by omega, by go_num, B11.out⟩
                case measure => simp [intOf]; omega
            · have t3 : decide ((j : Int) < (n : Int)) = false := by simp; omega
              clear SG SC TOP
              go_wp2_with fail
              (with_reducible refine (AW.out _).mono ?_)
              rintro e w12 ⟨rfl, h12⟩
              have B12 := Lib.hid (bt (bt B2.out (bt B9.out B10.out)) h12)
              clear h12
              go_wp2_with fail
              go_ret
              exact ⟨rfl, B12.out⟩
  · have t7 : decide ((m : Int) ≤ (q : Int)) = false := by simp; omega
    have HT := HO
    have ST := S2
    have B8 := B5
    clear HO S2 B5
    go_wp2_with fail
    go_loopw [13, 14] (fun v x wr => ∃ (i n : Nat) (tl : List Value), i ≤ 8 * m ∧ x = .int .i64 (i : Nat) ∧ 2 ≤ n ∧ n ≤ i + 3 ∧ i ≤ 400 ∧ wr.ownsRow wz.heap.size 9 1 v n tl ∧ Strs m tl ∧ Below wz.heap.size wz wr) (fun _ x _ => 8 * m - (intOf x).toNat)
    case atStart => exact ⟨0, _, _, Nat.zero_le _, rfl, by omega, by omega, by omega, HT.out, ST.out, B8.out⟩
    case round =>
      obtain ⟨i, n, tl, hi, rfl, hn2, hni, hi4, hown, hst, hB⟩ := hrel
      have HO := Lib.hid hown
      have SS := Lib.hid hst
      have B9 := Lib.hid hB
      have SL := Lib.hid (own_slen hown)
      clear hst hB HT ST B8
      have w8 : IntKind.i64.wrap (8 * (m : Int)) = 8 * (m : Int) := by rw [IntKind.wrap_i64]; omega
      by_cases hlt : i < 8 * m ∧ i < 400
      · obtain ⟨l1, l2⟩ := hlt
        have t1 : decide ((i : Int) < 8 * (m : Int)) = true := by simp; omega
        have t2 : decide ((i : Int) < 400) = true := by simp; omega
        have FL := Lib.hid (fun w => kflip_size D m sD (by omega) (by omega) (i : Int) (wf_small i (by omega)) w)
        clear hown
        go_wp2_with fail
        (with_reducible refine (FL.out _).mono ?_)
        rintro e w10 ⟨⟨t, rfl, st⟩, h10⟩
        have TS := Lib.hid st
        have HO1 := Lib.hid (own_below HO.out h10)
        have BA := Lib.hid (ba (bt B9.out h10) (.cells #[.string t] 9))
        clear h10 st B9 FL HO
        go_wp2_with (at_builtin; go_loud (refine wpList_append_own _ rfl _ _ 38 rfl wz.heap.size 9 j0 (.string ⟨#[]⟩) 1 16 Try.underlying38 hj0 hx0 hx1 hx2 rfl (by decide) _ _ _ rfl (HO1.out.alloc _) ⟨w10.heap.size, 0, none⟩ 1 1 [.string t] rfl rfl cell_one (by simp [Value.oneCell']) (by unfold maxLen; omega) (by omega) (by have := BA.out.size; simp at this ⊢; omega) ?_); intro v' w9 hown2 hgrow _; obtain ⟨g', cap', rfl⟩ := ownsRow_succ hown2; have HO2 := Lib.hid hown2; have BW := Lib.hid (BA.out.grown hgrow BA.out.size (fun k e => own_block_ge HO1.out e)); clear hown2 hgrow)
        go_roundw
        case rel => exact ⟨i + 1, n + 1, _, by omega, by go_num, by omega, by omega, by omega, HO2.out, SS.out.snoc TS.out, BW.out⟩
        case measure => simp [intOf]; omega
      · obtain ⟨g, cap, rfl⟩ := own_slice hown (by omega)
        have SG := Lib.hid (strs_get hown SS.out)
        have HN2 := Lib.hid hni
        clear hown SL SS
        by_cases l1 : i < 8 * m
        · have t1 : decide ((i : Int) < 8 * (m : Int)) = true := by simp; omega
          have t2 : decide ((i : Int) < 400) = false := by simp; omega
          go_wp2_with fail
          go_loopw [15] (fun x w' => ∃ j : Nat, j ≤ n ∧ x = .int .i64 (j : Nat) ∧ Below wr.heap.size wr w') (fun x _ => n - (intOf x).toNat)
          case atStart => exact ⟨0, Nat.zero_le _, rfl, Below.refl _ _⟩
          case round =>
            obtain ⟨j, hj, rfl, hB⟩ := hrel
            have B10 := Lib.hid hB
            clear hB
            by_cases hjn : j < n
            · have t3 : decide ((j : Int) < (n : Int)) = true := by simp; omega
              have jn : (j : Int) < (n : Int) := by omega
              obtain ⟨t, st, cs⟩ := SG.out j hjn
              have C1 := Lib.hid (fun w' hb => cs w' hb)
              have c1 := cs _ B10.out
              have SC1 := Lib.hid (SC.out t st)
              have TT := Lib.hid (TOP.out t st)
              obtain ⟨z, hz⟩ : ∃ z, Vit.msum F m (Gal.co t.data.toList) = z := ⟨_, rfl⟩
              rw [hz] at SC1 TT
              clear hz cs SC TOP
              go_wp2_with fail
              (with_reducible refine (SC1.out _ (I2.out.below (bt B9.out B10.out))).mono ?_)
              rintro e w11 ⟨rfl, h11⟩
              have c2 := C1.out _ (bt B10.out h11)
              have B11 := Lib.hid (bt B10.out h11)
              clear h11 B10 SC1 C1 c1
              by_cases e : z = y
              · subst e
                have lb := TT.out.2 rfl
                have t4 : decide (z < z) = false := by simp
                have t5 : (z == z) = true := by simp
                clear TT
                go_wp2_with fail
                go_roundw
                case rel => exact ⟨j + 1, by omega, by go_num, B11.out⟩
                case measure => simp [intOf]; omega
              · have t4 : decide (y < z) = false := by have := TT.out.1; simp; omega
                have t5 : (z == y) = false := by simp; exact e
                clear TT e
                go_wp2_with fail
                go_roundw
                case rel => exact ⟨j + 1, by omega, by go_num, B11.out⟩
                case measure => simp [intOf]; omega
            · have t3 : decide ((j : Int) < (n : Int)) = false := by simp; omega
              clear SG SC TOP
              go_wp2_with fail
              (with_reducible refine (AW.out _).mono ?_)
              rintro e w12 ⟨rfl, h12⟩
              have B12 := Lib.hid (bt (bt B2.out (bt B9.out B10.out)) h12)
              clear h12
              go_wp2_with fail
              go_ret
              exact ⟨rfl, B12.out⟩
        · have t1 : decide ((i : Int) < 8 * (m : Int)) = false := by simp; omega
          go_wp2_with fail
          go_loopw [15] (fun x w' => ∃ j : Nat, j ≤ n ∧ x = .int .i64 (j : Nat) ∧ Below wr.heap.size wr w') (fun x _ => n - (intOf x).toNat)
          case atStart => exact ⟨0, Nat.zero_le _, rfl, Below.refl _ _⟩
          case round =>
            obtain ⟨j, hj, rfl, hB⟩ := hrel
            have B10 := Lib.hid hB
            clear hB
            by_cases hjn : j < n
            · have t3 : decide ((j : Int) < (n : Int)) = true := by simp; omega
              have jn : (j : Int) < (n : Int) := by omega
              obtain ⟨t, st, cs⟩ := SG.out j hjn
              have C1 := Lib.hid (fun w' hb => cs w' hb)
              have c1 := cs _ B10.out
              have SC1 := Lib.hid (SC.out t st)
              have TT := Lib.hid (TOP.out t st)
              obtain ⟨z, hz⟩ : ∃ z, Vit.msum F m (Gal.co t.data.toList) = z := ⟨_, rfl⟩
              rw [hz] at SC1 TT
              clear hz cs SC TOP
              go_wp2_with fail
              (with_reducible refine (SC1.out _ (I2.out.below (bt B9.out B10.out))).mono ?_)
              rintro e w11 ⟨rfl, h11⟩
              have c2 := C1.out _ (bt B10.out h11)
              have B11 := Lib.hid (bt B10.out h11)
              clear h11 B10 SC1 C1 c1
              by_cases e : z = y
              · subst e
                have lb := TT.out.2 rfl
                have t4 : decide (z < z) = false := by simp
                have t5 : (z == z) = true := by simp
                clear TT
                go_wp2_with fail
                go_roundw
                case rel => exact ⟨j + 1, by omega, by go_num, B11.out⟩
                case measure => simp [intOf]; omega
              · have t4 : decide (y < z) = false := by have := TT.out.1; simp; omega
                have t5 : (z == y) = false := by simp; exact e
                clear TT e
                go_wp2_with fail
                go_roundw
                case rel => exact ⟨j + 1, by omega, by go_num, B11.out⟩
                case measure => simp [intOf]; omega
            · have t3 : decide ((j : Int) < (n : Int)) = false := by simp; omega
              clear SG SC TOP
              go_wp2_with fail
              (with_reducible refine (AW.out _).mono ?_)
              rintro e w12 ⟨rfl, h12⟩
              have B12 := Lib.hid (bt (bt B2.out (bt B9.out B10.out)) h12)
              clear h12
              go_wp2_with fail
              go_ret
              exact ⟨rfl, B12.out⟩

set_option maxRecDepth 100000 in
theorem lifted (os : Os) (started : os.Started) (H : Type) (enc : TypeId × Value → H) :
    ReturnsInHanded {} Try.checked os 5 .any (Rows.viterbiBestSpec.pre6 enc Try.prog Try.f5 Rows.viterbiBestRow.domain false) (Rows.viterbiBestSpec.post enc Try.prog Try.f5 false true false false) := by
  refine returnsInHanded_of_change (C := Try.checked) own started (by kernel_rfl) Try.func5
    (ChangeSpec.witness6 (enc := enc) (C := Try.checked) false ⟨#[], #[.string { data := #[] }, .slice none 0 0, .string { data := #[] }], []⟩ 8 (by kernel_rfl) (by kernel_rfl) (by kernel_rfl) (by kernel_rfl)) ?_
  intro W base args ds gs before hval0 hW _ _
  have hval : ∀ (j : Nat) t v, Try.f5.params[j]? = some t → args[j]? = some v → Value.okWide Try.prog W .any base t v := hval0
  have hW' := hW
  obtain ⟨p, q, hA0, hV, rfl, hfz, hnd⟩ := hW
  have hA : DataW.TrodAll enc Try.prog W 0 (fun _ => true) true Try.f5.params.toList args.toList ds p := hA0
  rw [Try.params5] at hA hval
  obtain ⟨v0, vs0, d0, ds0, p0, q0, hargs, rfl, rfl, h0, r0⟩ := trodAll_cons hA
  obtain ⟨v1, vs1, d1, ds1, p1, q1, rfl, rfl, rfl, h1, r1⟩ := trodAll_cons r0
  obtain ⟨v2, vs2, d2, ds2, p2, q2, rfl, rfl, rfl, h2, r2⟩ := trodAll_cons r1
  obtain ⟨rfl, rfl, rfl⟩ := trodAll_nil r2
  obtain rfl : args = #[v0, v1, v2] := by cases args; simp_all
  obtain ⟨rfl, rfl⟩ := trodVars_none hV
  obtain ⟨a0, rfl, rfl, rfl, w0⟩ := ChangeMaps.open_string Try.underlying9 (hval 0 9 v0 rfl rfl) h0
  obtain ⟨x1, y1, z1, e1⟩ := okWide_slice Try.underlying35 (hval 1 35 v1 rfl rfl)
  obtain ⟨zs1, S1⟩ := slice_arg (k := .i8) Try.underlying35 Try.underlying59 cells_i8 (by rw [e1]; rfl) h1
  clear e1
  obtain ⟨⟨ao1, cap1, rfl, l1, m1, R1⟩, w1, shut1⟩ := S1
  obtain ⟨a2, rfl, rfl, rfl, w2⟩ := ChangeMaps.open_string Try.underlying9 (hval 2 9 v2 rfl rfl) h2
  clear hA0 hval0
  simp only [List.append_nil] at hW'
  refine (walk a0 w0 ao1 cap1 zs1 l1 m1 w1 a2 w2 W R1).mono fun e W' ⟨he, hg⟩ => ?_
  subst he
  exact ⟨_, rfl, post_of_below (pa := ([] ++ (p1 ++ ([] ++ [])))) (pv := []) hW' (fun _ _ _ => trodAll_cons_mk (shut_bool Try.underlying4 _) trodAll_mk0) (fun sp hsp => (trodAll_cons_mk (ChangeMaps.shut_string Try.underlying9 w0) (trodAll_cons_mk (shut1 W' hg sp (fun q hq => hsp q (by simp [hq]))) (trodAll_cons_mk (ChangeMaps.shut_string Try.underlying9 w2) trodAll_mk0)))) (fun _ _ => rfl) (by simp)
    hg (ok_one (by kernel_rfl) rfl (okWide_bool_mk Try.underlying4 _))⟩

theorem proved : Rows.ViterbiBestSaid :=
  OpenClaim.holds_of_wide 5 Try.f5 rfl rfl rfl rfl rfl rfl rfl ⟨rfl, rfl, rfl, rfl, rfl⟩ rfl rfl rfl rfl rfl (by kernel_rfl) Try.func5 (by kernel_rfl)
    (of_decide_eq_true (by kernel_rfl)) (by unfold Func.isWrapper; first | (rw [if_pos (by decide +kernel)]; kernel_rfl) | (rw [if_neg (by decide +kernel)]; exact ⟨rfl, rfl⟩))
    (fun os started H enc _ => lifted os started H enc)
#print axioms proved
end viterbiBest
end Go.Proofs.Ytgfihljledmaaaa
