/- MarkerBridges: of blocks one behind the other, all are found by a finder of layer 8, in order, if in each marker at most two bits are wrong, and besides at most two markers in a row, not the first one, are spoiled in any way, for every input. -/
import Derived.Test.YtlfnglinalmpjaaMkBr
import Derived.Deep.CutRange
import Derived.Deep.CutBlock
namespace Go.Proofs.Ytlfnglinalmpjaa
open Go.ChangeShapes Go.WideShapes Go.ChangeAt Go.RowKit
set_option linter.unusedVariables false

namespace markerBridges
theorem cells_int' : Try.prog.cellsOf 3 = 1 := by kernel_rfl
theorem cells_u32 : Try.prog.cellsOf 55 = 1 := by kernel_rfl
theorem bounds_u32 {n : Int} (h : (Lit.int .u32 n).wf = true) : 0 ≤ n ∧ n < 4294967296 := by
  simp only [Lit.wf] at h
  have := h
  simp at this
  rw [show IntKind.u32.min = 0 from rfl, show IntKind.u32.max = 4294967295 from rfl] at this
  omega
set_option maxRecDepth 100000 in
set_option maxHeartbeats 8000000 in
theorem walk (ra : Option Addr) (rc : Nat) (rows : List RowV) (hrl : rows.length ≤ rc) (hrm : rc ≤ maxLen) (len : Int) (hlen : (Lit.int .i64 len).wf = true) (wa : Option Addr) (wcp : Nat) (ws : List Int) (hwl : ws.length ≤ wcp) (hwm : wcp ≤ maxLen) (hww : ∀ n ∈ ws, (Lit.int .u32 n).wf = true) (w : World) (R : RowL w ra rows) (RW : Reads .u32 w wa ws) :
    Calls Try.prog 6 #[.slice ra rows.length rc, .int .i64 len, .slice wa ws.length wcp] w fun e w' => e = .returned (.bool true) ∧ Below w.heap.size w w' := by
  have AW := Lib.hid (fun w => awake_any w)
  obtain ⟨n, hn⟩ : ∃ n, rows.length = n := ⟨_, rfl⟩
  obtain ⟨nw, hnw⟩ : ∃ n, ws.length = n := ⟨_, rfl⟩
  rw [hn] at hrl ⊢
  rw [hnw] at hwl ⊢
  have HN := Lib.hid hn
  have HNW := Lib.hid hnw
  have HR := Lib.hid R
  have HRW := Lib.hid RW
  have HWW := Lib.hid hww
  unfold maxLen at hrm hwm
  clear R RW hww hn hnw hlen
  by_cases h1 : 20 < n
  · have t1 : decide ((20 : Int) < (n : Int)) = true := by simp; omega
    go_enter Try.func6, Try.ntmps6
    go_wp2_with fail
    (with_reducible refine (AW.out _).mono ?_)
    rintro e w1 ⟨rfl, h1⟩
    go_wp2_with fail
    go_ret
    exact ⟨rfl, h1⟩
  have t1 : decide ((20 : Int) < (n : Int)) = false := by simp; omega
  by_cases h2 : len < 1
  · have t2 : decide (len < 1) = true := by simp; omega
    go_enter Try.func6, Try.ntmps6
    go_wp2_with fail
    (with_reducible refine (AW.out _).mono ?_)
    rintro e w1 ⟨rfl, h1⟩
    go_wp2_with fail
    go_ret
    exact ⟨rfl, h1⟩
  by_cases h3 : 300 < len
  · have t2 : decide (len < 1) = false := by simp; omega
    have t3 : decide ((300 : Int) < len) = true := by simp; omega
    go_enter Try.func6, Try.ntmps6
    go_wp2_with fail
    (with_reducible refine (AW.out _).mono ?_)
    rintro e w1 ⟨rfl, h1⟩
    go_wp2_with fail
    go_ret
    exact ⟨rfl, h1⟩
  obtain ⟨L, rfl⟩ : ∃ L : Nat, len = (L : Int) := ⟨len.toNat, by omega⟩
  have L1 : 1 ≤ L := by omega
  have L3 : L ≤ 300 := by omega
  have t2 : decide ((L : Int) < 1) = false := by simp; omega
  have t3 : decide ((300 : Int) < (L : Int)) = false := by simp; omega
  by_cases h4 : nw = 0
  · have t4 : ((nw : Int) == 0) = true := by simp; omega
    clear h4
    go_enter Try.func6, Try.ntmps6
    go_wp2_with fail
    (with_reducible refine (AW.out _).mono ?_)
    rintro e w1 ⟨rfl, h1⟩
    go_wp2_with fail
    go_ret
    exact ⟨rfl, h1⟩
  have t4 : ((nw : Int) == 0) = false := by simp; omega
  have n20 : n ≤ 20 := by omega
  clear h1 h2 h3
  have I0 := Lib.hid (BrI.start L)
  have M0 := Lib.hid (show BrM w w L [] (.slice none 0 0) (.slice none 0 0) 0 [] from ⟨World.ownsRow_nil _ _ _ _, World.ownsRow_nil _ _ _ _, fun j hj => absurd hj (Nat.not_lt_zero j), Below.refl _ _⟩)
  have MK := Lib.hid (fun w => rmarker_any w)
  go_enter Try.func6, Try.ntmps6
  go_wp2_with fail
  go_loopw [7, 8, 9, 10] (fun av bv mv x wr => ∃ (i m : Nat) (zs : List Int) (cs : List Value), i ≤ n ∧ x = .int .i64 (i : Nat) ∧ mv = .int .i64 (m : Nat) ∧ BrI L zs i m ∧ BrM w wr L zs av bv i cs) (fun _ _ _ x _ => n - (intOf x).toNat)
  case atStart => exact ⟨0, 0, [], [], Nat.zero_le _, rfl, rfl, I0.out, M0.out⟩
  case round =>
    obtain ⟨i, m, zs, cs, hi, rfl, rfl, hI, hM⟩ := hrel
    rename World => wr
    obtain ⟨aa, ac, rfl⟩ := own_is hM.all
    obtain ⟨la, lc, rfl⟩ := own_is hM.row
    have HI := Lib.hid hI
    have HM := Lib.hid hM
    clear I0 M0
    by_cases hlt : i < n
    · have k1 : decide ((i : Int) < (n : Int)) = true := by simp; omega
      have k9 : (i : Int) < (n : Int) := by omega
      -- the number of this round
      obtain ⟨q, hq⟩ : ∃ q, i % nw = q := ⟨_, rfl⟩
      have qn : q < nw := by rw [← hq]; exact Nat.mod_lt _ (by omega)
      have q1 : (i : Int) % (nw : Int) = (q : Int) := by omega
      have q2 : (q : Int) < (nw : Int) := by omega
      obtain ⟨wb, wo, rfl, lwb, hwc⟩ : ∃ b off, wa = some ⟨b, off, none⟩ ∧ b < w.heap.size ∧ ∀ j, j < ws.length → w.cell? ⟨b, off + j, none⟩ = some (.int .u32 (ws.getD j 0)) := by
        rcases HRW.out with h | h
        · rw [h] at HNW
          have := HNW.out
          simp at this
          omega
        · exact h
      have cw := hwc q (by rw [HNW.out]; exact qn)
      obtain ⟨x, hx⟩ : ∃ x, ws.getD q 0 = x := ⟨_, rfl⟩
      rw [hx] at cw
      have wx := HWW.out x (by rw [← hx, List.getD_eq_getElem?_getD, List.getElem?_eq_getElem (by rw [HNW.out]; exact qn)]; exact List.getElem_mem _)
      obtain ⟨X, rfl, X32⟩ : ∃ X : Nat, x = (X : Int) ∧ X < 4294967296 := by
        have := bounds_u32 wx
        exact ⟨x.toNat, by omega, by omega⟩
      have CW := Lib.hid (fun w2 (b : Below wr.heap.size wr w2) => ((bt hM.bel b).cell (p := ⟨wb, wo + q, none⟩) lwb).trans cw)
      have m2 := hI.m2
      clear hq hwc hx wx cw hI hM
      go_wp2_with fail
      (with_reducible refine (MK.out _).mono ?_)
      rintro e w2 ⟨rfl, h2⟩
      obtain ⟨M, hM⟩ : ∃ M, mkS = M := ⟨_, rfl⟩
      have sM : M.size = 32 := by rw [← hM]; exact coefs_size _ _
      have cM : ∀ j, j < 32 → (Gal.co M.data.toList j).toNat = mkb j := fun j hj => by
        rw [← hM]
        unfold mkS
        show (Gal.co (Gal.coefs _ _) j).toNat = _
        rw [Gal.co_coefs, if_pos hj, mkv_nat]
      rw [hM]
      have c1 := run_bytes_of_string (P := Try.prog) w2 9 53 5 M Try.underlying9 Try.underlying53 Try.underlying5
      have dg := grownCap_ge w2 M.size 0 5
      obtain ⟨D, hD⟩ : ∃ D, grownCap w2 M.size 0 5 = D := ⟨_, rfl⟩
      rw [hD, sM] at c1
      rw [hD, sM] at dg
      have n1 := nums_new M D 5 w2.drew
      rw [sM, show w2.drew.heap.size = w2.heap.size from rfl] at n1
      have b3 := ba (Below.refl w2.heap.size w2).drew (.cells (bytesRow M D) 5 ((bytesRow M D).size, (bytesRow M D).size + 1))
      obtain ⟨w3, hw3⟩ : ∃ w3, w2.drew.alloc (.cells (bytesRow M D) 5 ((bytesRow M D).size, (bytesRow M D).size + 1)) = w3 := ⟨_, rfl⟩
      have c1' : (convert 9 53 (.string M)).run Try.prog w2 = .ok (.slice (some ⟨w2.heap.size, 0, none⟩) 32 D) (w2.drew.alloc (.cells (bytesRow M D) 5 ((bytesRow M D).size, (bytesRow M D).size + 1))) := c1
      rw [hw3] at c1' n1 b3
      obtain ⟨g, hg⟩ : ∃ g, w2.heap.size = g := ⟨_, rfl⟩
      rw [hg] at c1' n1 b3
      have N3 := Lib.hid (n1.congr cM)
      have B2 := Lib.hid h2
      have G2 := Lib.hid (show wr.heap.size ≤ g by have := h2.size; omega)
      have B3 := Lib.hid (show Below wr.heap.size wr w3 from bt h2 (hg ▸ b3))
      have C1 := Lib.hid c1'
      have cw := CW.out w3 B3.out
      have DG := Lib.hid dg
      clear hM sM cM c1 dg hD n1 b3 hw3 c1' hg h2
      -- is this marker spoiled?
      obtain ⟨r4, hr4⟩ : ∃ r, X % 4 = r := ⟨_, rfl⟩
      have q4 : (X : Int) % 4 = (r4 : Int) := by omega
      have q5 : (X : Int).tmod 4 = (r4 : Int) := by rw [Int.tmod_eq_emod_of_nonneg (by omega)]; omega
      obtain ⟨sp, hsp⟩ : ∃ sp, (decide (0 < i) && decide (m < 2) && decide (r4 = 0)) = sp := ⟨_, rfl⟩
      have SP := Lib.hid hsp
      clear hr4 hsp
      go_upto_region 11 with (simp only [C1.out])
      go_cut [13] from 39 to 150 (fun a wx => a = .bool sp ∧ wx = w3)
      case first =>
        by_cases i0 : 0 < i
        · have u1 : decide ((0 : Int) < (i : Int)) = true := by simp; omega
          have u1n : decide (0 < i) = true := decide_eq_true i0
          by_cases m0 : m < 2
          · have u2 : decide ((m : Int) < 2) = true := by simp; omega
            obtain ⟨c, hc⟩ : ∃ c, decide (r4 = 0) = c := ⟨_, rfl⟩
            have u3 : ((r4 : Int) == 0) = c := by
              rw [← hc]
              cases h : decide (r4 = 0) with
              | true =>
                have := of_decide_eq_true h
                simp
                omega
              | false =>
                have := of_decide_eq_false h
                simp
                omega
            have E := Lib.hid (show sp = c by rw [← SP.out, ← hc, decide_eq_true i0, decide_eq_true m0]; rfl)
            clear i0 m0 hc
            cases c with
            | true =>
              go_wp2_with fail
              go_meet
              case rel => exact ⟨by rw [E.out], rfl⟩
            | false =>
              go_wp2_with fail
              go_meet
              case rel => exact ⟨by rw [E.out], rfl⟩
          · have u2 : decide ((m : Int) < 2) = false := by simp; omega
            have E := Lib.hid (show sp = false by rw [← SP.out, decide_eq_true i0, decide_eq_false m0]; rfl)
            clear i0 m0
            go_wp2_with fail
            go_meet
            case rel => exact ⟨by rw [E.out], rfl⟩
        · have u1 : decide ((0 : Int) < (i : Int)) = false := by simp; omega
          have u1n : decide (0 < i) = false := decide_eq_false i0
          have E := Lib.hid (show sp = false by rw [← SP.out, decide_eq_false i0]; rfl)
          clear i0
          go_wp2_with fail
          go_meet
          case rel => exact ⟨by rw [E.out], rfl⟩
      case rest =>
        obtain ⟨rfl, rfl⟩ := hcut
        obtain ⟨m1, hm1⟩ : ∃ x, m + 1 = x := ⟨_, rfl⟩
        have e1 : (m : Int) + 1 = (m1 : Int) := by omega
        have e2 : IntKind.i64.wrap ((m : Int) + 1) = (m1 : Int) := by rw [IntKind.wrap_i64]; omega
        have HM1 := Lib.hid hm1
        clear hm1
        go_upto_if 68 with fail
        go_cut [9] from 39 to 150 (fun a wx => a = .int .i64 (if sp = true then m1 else 0 : Nat) ∧ wx = wc)
        case first =>
          cases sp with
          | true =>
            go_wp2_with fail
            go_meet
            case rel => exact ⟨rfl, rfl⟩
          | false =>
            go_wp2_with fail
            go_meet
            case rel => exact ⟨rfl, rfl⟩
        case rest =>
          obtain ⟨rfl, rfl⟩ := hcut
          obtain ⟨fl, hfl⟩ : ∃ fl : Nat → Bool, (fun j => if sp = true then decide (X / 2 ^ j % 2 = 1) else (decide (j = X % 32) || decide (j = X / 32 % 32))) = fl := ⟨_, rfl⟩
          have FL := Lib.hid (show ∀ j, fl j = if sp = true then decide (X / 2 ^ j % 2 = 1) else (decide (j = X % 32) || decide (j = X / 32 % 32)) from fun j => by rw [← hfl])
          obtain ⟨mm, hmm⟩ : ∃ mm, (if sp = true then m1 else 0) = mm := ⟨_, rfl⟩
          rw [hmm]
          have BN := Lib.hid (show BrI L zs i m → (0 < i ∧ m < 2 ∧ mm = m + 1) ∨ (mm = 0 ∧ Mk.wrongAt (fz (flZ fl)) 0 32 ≤ 2) from fun _ => by
            cases sp with
            | true =>
              refine .inl ?_
              have e := SP.out
              simp only [Bool.and_eq_true, decide_eq_true_eq] at e
              refine ⟨e.1.1, e.1.2, ?_⟩
              rw [← hmm, if_pos rfl, HM1.out]
            | false =>
              refine .inr ⟨by rw [← hmm, if_neg (by simp)], flZ_few (a := X % 32) (b := X / 32 % 32) (fun j _ hj => ?_)⟩
              rw [FL.out, if_neg (by simp)] at hj
              simpa using hj)
          have NZ := Lib.hid (N3.out.congr (g := fls fl 0) (fun j _ => (if_neg (Nat.not_lt_zero j)).symm))
          clear hfl hmm SP N3 cw C1 e1 e2 HM1 m2
          go_wp2_with fail
          go_loopw [14] (fun x w4 => ∃ k : Nat, k ≤ 32 ∧ x = .int .i64 (k : Nat) ∧ NumsK .u8 w4 g 32 (fls fl k) ∧ Below wr.heap.size wr w4) (fun x _ => 32 - (intOf x).toNat)
          case atStart => exact ⟨0, Nat.zero_le _, rfl, NZ.out, B3.out⟩
          case round =>
            obtain ⟨k, hk, rfl, hN, hB⟩ := hrel
            clear NZ B3
            rename World => w4
            by_cases hlt2 : k < 32
            · have k2 : decide ((k : Int) < 32) = true := by simp; omega
              have cN := hN.cell hlt2
              have fN := hN.frozen hlt2
              rw [show fls fl k k = mkb k from if_neg (Nat.lt_irrefl k)] at cN
              have x2 := mkb_lt k
              obtain ⟨xb, hxb⟩ : ∃ x, mkb k = x := ⟨_, rfl⟩
              rw [hxb] at cN x2
              have HX := Lib.hid hxb
              have k3 : (k : Int) < 32 := by omega
              clear hxb
              cases sp with
              | true =>
                obtain ⟨z, hz⟩ : ∃ z, X / 2 ^ k = z := ⟨_, rfl⟩
                have s1 : (X : Int) / 2 ^ k = (z : Int) := by
                  rw [← hz]
                  simp
                have zl : z ≤ X := by rw [← hz]; exact Nat.div_le_self _ _
                obtain ⟨b2, hb2⟩ : ∃ b, z % 2 = b := ⟨_, rfl⟩
                have s2 : (z : Int) % 2 = (b2 : Int) := by omega
                have s3 : (z : Int).tmod 2 = (b2 : Int) := by rw [Int.tmod_eq_emod_of_nonneg (by omega)]; omega
                have fk := FL.out k
                rw [if_pos rfl, hz, hb2] at fk
                by_cases hb : b2 = 1
                · have s4 : ((b2 : Int) == 1) = true := by simp; omega
                  have FK := Lib.hid (show fl k = true by rw [fk]; exact decide_eq_true hb)
                  clear hz hb2 fk hb
                  obtain ⟨y, hy⟩ : ∃ y, 1 - xb = y := ⟨_, rfl⟩
                  have y1 : (1 : Int) - (xb : Int) = (y : Int) := by omega
                  have y2 : IntKind.u8.wrap ((1 : Int) - (xb : Int)) = (y : Int) := by rw [IntKind.wrap_u8]; omega
                  have N4 := Lib.hid (hN.set (g := fls fl (k + 1)) k y hlt2 (by unfold fls flb; rw [if_pos (by omega), FK.out, if_pos rfl, HX.out, hy]) (fun j _ hj => by
                    unfold fls
                    by_cases h : j < k
                    · rw [if_pos h, if_pos (by omega)]
                    · rw [if_neg h, if_neg (by omega)]))
                  have B4 := Lib.hid (hB.setCell (p := ⟨g, k, none⟩) G2.out (.int .u8 (y : Nat)))
                  clear hN hB hy
                  go_wp2_with fail
                  go_roundw
                  case rel => exact ⟨k + 1, by omega, by go_num, N4.out, B4.out⟩
                  case measure => simp [intOf]; omega
                · have s4 : ((b2 : Int) == 1) = false := by simp; omega
                  have FK := Lib.hid (show fl k = false by rw [fk]; exact decide_eq_false hb)
                  clear hz hb2 fk hb
                  have N4 := Lib.hid (hN.congr (g := fls fl (k + 1)) (fun j _ => by
                    unfold fls
                    by_cases h : j < k
                    · rw [if_pos h, if_pos (by omega)]
                    · rw [if_neg h]
                      by_cases e : j = k
                      · rw [if_pos (by omega)]
                        unfold flb
                        rw [e, FK.out, if_neg (by simp)]
                      · rw [if_neg (by omega)]))
                  have B4 := Lib.hid hB
                  clear hN hB
                  go_wp2_with fail
                  go_roundw
                  case rel => exact ⟨k + 1, by omega, by go_num, N4.out, B4.out⟩
                  case measure => simp [intOf]; omega
              | false =>
                obtain ⟨a, ha⟩ : ∃ a, X % 32 = a := ⟨_, rfl⟩
                obtain ⟨y5, hy5⟩ : ∃ y, X / 32 = y := ⟨_, rfl⟩
                obtain ⟨b, hb⟩ : ∃ b, y5 % 32 = b := ⟨_, rfl⟩
                have s1 : (X : Int) % 32 = (a : Int) := by omega
                have s2 : (X : Int).tmod 32 = (a : Int) := by rw [Int.tmod_eq_emod_of_nonneg (by omega)]; omega
                have s3 : (X : Int) / 32 = (y5 : Int) := by omega
                have s4 : (X : Int).tdiv 32 = (y5 : Int) := by rw [Int.tdiv_eq_ediv_of_nonneg (by omega)]; omega
                have s5 : (y5 : Int) % 32 = (b : Int) := by omega
                have s6 : (y5 : Int).tmod 32 = (b : Int) := by rw [Int.tmod_eq_emod_of_nonneg (by omega)]; omega
                have fk := FL.out k
                rw [if_neg (by simp), hy5, ha, hb] at fk
                have al : a < 32 := by omega
                have bl : b < 32 := by omega
                by_cases h1 : k = a
                · have u1 : ((k : Int) == (a : Int)) = true := by simp; omega
                  have FK := Lib.hid (show fl k = true by rw [fk, decide_eq_true h1]; rfl)
                  clear ha hy5 hb fk h1
                  obtain ⟨y, hy⟩ : ∃ y, 1 - xb = y := ⟨_, rfl⟩
                  have y1 : (1 : Int) - (xb : Int) = (y : Int) := by omega
                  have y2 : IntKind.u8.wrap ((1 : Int) - (xb : Int)) = (y : Int) := by rw [IntKind.wrap_u8]; omega
                  have N4 := Lib.hid (hN.set (g := fls fl (k + 1)) k y hlt2 (by unfold fls flb; rw [if_pos (by omega), FK.out, if_pos rfl, HX.out, hy]) (fun j _ hj => by
                    unfold fls
                    by_cases h : j < k
                    · rw [if_pos h, if_pos (by omega)]
                    · rw [if_neg h, if_neg (by omega)]))
                  have B4 := Lib.hid (hB.setCell (p := ⟨g, k, none⟩) G2.out (.int .u8 (y : Nat)))
                  clear hN hB hy
                  go_wp2_with fail
                  go_roundw
                  case rel => exact ⟨k + 1, by omega, by go_num, N4.out, B4.out⟩
                  case measure => simp [intOf]; omega
                · have u1 : ((k : Int) == (a : Int)) = false := by simp; omega
                  by_cases h2 : k = b
                  · have u2 : ((k : Int) == (b : Int)) = true := by simp; omega
                    have FK := Lib.hid (show fl k = true by rw [fk, decide_eq_true h2, Bool.or_true])
                    clear ha hy5 hb fk h1 h2
                    obtain ⟨y, hy⟩ : ∃ y, 1 - xb = y := ⟨_, rfl⟩
                    have y1 : (1 : Int) - (xb : Int) = (y : Int) := by omega
                    have y2 : IntKind.u8.wrap ((1 : Int) - (xb : Int)) = (y : Int) := by rw [IntKind.wrap_u8]; omega
                    have N4 := Lib.hid (hN.set (g := fls fl (k + 1)) k y hlt2 (by unfold fls flb; rw [if_pos (by omega), FK.out, if_pos rfl, HX.out, hy]) (fun j _ hj => by
                      unfold fls
                      by_cases h : j < k
                      · rw [if_pos h, if_pos (by omega)]
                      · rw [if_neg h, if_neg (by omega)]))
                    have B4 := Lib.hid (hB.setCell (p := ⟨g, k, none⟩) G2.out (.int .u8 (y : Nat)))
                    clear hN hB hy
                    go_wp2_with fail
                    go_roundw
                    case rel => exact ⟨k + 1, by omega, by go_num, N4.out, B4.out⟩
                    case measure => simp [intOf]; omega
                  · have u2 : ((k : Int) == (b : Int)) = false := by simp; omega
                    have FK := Lib.hid (show fl k = false by rw [fk, decide_eq_false h1, decide_eq_false h2]; rfl)
                    clear ha hy5 hb fk h1 h2
                    have N4 := Lib.hid (hN.congr (g := fls fl (k + 1)) (fun j _ => by
                      unfold fls
                      by_cases h : j < k
                      · rw [if_pos h, if_pos (by omega)]
                      · rw [if_neg h]
                        by_cases e : j = k
                        · rw [if_pos (by omega)]
                          unfold flb
                          rw [e, FK.out, if_neg (by simp)]
                        · rw [if_neg (by omega)]))
                    have B4 := Lib.hid hB
                    clear hN hB
                    go_wp2_with fail
                    go_roundw
                    case rel => exact ⟨k + 1, by omega, by go_num, N4.out, B4.out⟩
                    case measure => simp [intOf]; omega
            · have k2 : decide ((k : Int) < 32) = false := by simp; omega
              have N4 := Lib.hid (hN.congr (g := fun j => (flv fl j).toNat) (fun j hj => by
                unfold fls
                rw [if_pos (by omega), flv_nat]))
              have B4 := Lib.hid hB
              obtain ⟨rb, ro, rfl, lrb, hrc⟩ : ∃ b off, ra = some ⟨b, off, none⟩ ∧ b < w.heap.size ∧ ∀ i x, rows[i]? = some x → w.cell? ⟨b, off + i, none⟩ = some (.slice x.va x.vals.length x.vc) ∧ RowR w x := by
                rcases HR.out with h | h
                · rw [h] at HN
                  have := HN.out
                  simp at this
                  omega
                · exact h
              obtain ⟨⟨vals, va, vc⟩, hx⟩ : ∃ x, rows[i]? = some x := ⟨rows[i]'(by rw [HN.out]; exact hlt), List.getElem?_eq_getElem _⟩
              obtain ⟨c0, r1, r2, r3, r4⟩ := hrc i _ hx
              simp only at c0 r1 r2 r3 r4
              obtain ⟨nv, hnv⟩ : ∃ x, vals.length = x := ⟨_, rfl⟩
              rw [hnv] at c0 r2
              have CR := Lib.hid (fun (wl : World) (b : Below w4.heap.size w4 wl) => (((bt (bt HM.out.bel B4.out) b).cell (p := ⟨rb, ro + i, none⟩) lrb).trans c0))
              have RV := Lib.hid (fun (wl : World) (b : Below w4.heap.size w4 wl) => r1.below (bt (bt HM.out.bel B4.out) b))
              have WF := Lib.hid r4
              have NV := Lib.hid hnv
              obtain ⟨i0, hi0, hz0, hz1, hz2⟩ := info_parts info_i64
              clear hN hB hrc hx c0 r1 r4 hnv FL
              go_wp2_with fail
              go_loopw [15, 16] (fun bv x wl => ∃ (j : Nat) (bs : List Int), j ≤ L ∧ x = .int .i64 (j : Nat) ∧ bs.length = j ∧ (∀ z ∈ bs, -8 ≤ z ∧ z ≤ 7) ∧ wl.ownsRow w4.heap.size 3 1 bv j (bs.map (Value.int .i64)) ∧ Below w4.heap.size w4 wl) (fun _ x _ => L - (intOf x).toNat)
              case atStart => exact ⟨0, [], Nat.zero_le _, rfl, rfl, fun z hz => by simp at hz, World.ownsRow_nil _ _ _ _, Below.refl _ _⟩
              case round =>
                obtain ⟨j, bs, hj, rfl, hbl, hbs, hol, hbB⟩ := hrel
                rename World => wl
                obtain ⟨bla, blc, rfl⟩ := own_is hol
                have OL := Lib.hid hol
                have BL := Lib.hid hbB
                have BLN := Lib.hid hbl
                have BSF := Lib.hid hbs
                clear hol hbB hbl hbs
                by_cases hlt3 : j < L
                · have j1 : decide ((j : Int) < (L : Int)) = true := by simp; omega
                  have cr := CR.out wl BL.out
                  by_cases v0 : 0 < nv
                  · have v1 : decide ((0 : Int) < (nv : Int)) = true := by simp; omega
                    have v2 : decide (0 < nv) = true := decide_eq_true v0
                    obtain ⟨p, hp⟩ : ∃ p, j % nv = p := ⟨_, rfl⟩
                    have pn : p < nv := by rw [← hp]; exact Nat.mod_lt _ v0
                    have p1 : (j : Int) % (nv : Int) = (p : Int) := by omega
                    have p2 : (j : Int).tmod (nv : Int) = (p : Int) := by rw [Int.tmod_eq_emod_of_nonneg (by omega)]; omega
                    have p3 : (p : Int) < (nv : Int) := by omega
                    obtain ⟨vb, vo, rfl, lvb, hvc⟩ := (RV.out wl BL.out).cell (by rw [NV.out]; exact v0)
                    have cv := hvc p (by rw [NV.out]; exact pn)
                    obtain ⟨z, hz⟩ : ∃ z, vals.getD p 0 = z := ⟨_, rfl⟩
                    rw [hz] at cv
                    have wz := WF.out z (by rw [← hz, List.getD_eq_getElem?_getD, List.getElem?_eq_getElem (by rw [NV.out]; exact pn)]; exact List.getElem_mem _)
                    clear hp hvc hz
                    obtain ⟨pz, hpz⟩ : ∃ x, (z % (16 : Int)).toNat = x := ⟨_, rfl⟩
                    have PK := Lib.hid (fun w => show Calls Try.prog 20 #[.int .i64 z, .int .i64 16] w (fun e w' => e = .returned (.int .i64 (pz : Nat)) ∧ w = w') from by rw [← hpz]; exact pick_any z wz 16 (by omega) (by omega) w)
                    have pz16 : pz < 16 := by omega
                    obtain ⟨zz, hzz⟩ : ∃ zz : Int, (pz : Int) - 8 = zz := ⟨_, rfl⟩
                    have zz1 : IntKind.i64.wrap ((pz : Int) - 8) = zz := by rw [IntKind.wrap_i64]; omega
                    have ZS := Lib.hid (show -8 ≤ zz ∧ zz ≤ 7 by omega)
                    clear hpz wz
                    go_wp2_with fail
                    go_quiet (fail)
                    go_wp2_with fail
                    (with_reducible refine (PK.out _).mono ?_)
                    rintro e wp ⟨rfl, rfl⟩
                    obtain ⟨wq, hwq⟩ : ∃ wq, wl.drewN nq = wq := ⟨_, rfl⟩
                    rw [hwq]
                    have BQ := Lib.hid (show Below w4.heap.size w4 wq from by rw [← hwq]; exact below_drewN BL.out _)
                    have OQ := Lib.hid (show wq.ownsRow w4.heap.size 3 1 (.slice bla j blc) j (bs.map (Value.int .i64)) from by rw [← hwq]; exact own_below OL.out (below_drewN (Below.refl _ _) _))
                    obtain ⟨wA, hwA⟩ : ∃ wA, wq.alloc (.cells #[.int .i64 zz] 3) = wA := ⟨_, rfl⟩
                    have HWA := Lib.hid hwA
                    have BA := Lib.hid (show Below w4.heap.size w4 wA from hwA ▸ ba BQ.out _)
                    have OA := Lib.hid (show wA.ownsRow w4.heap.size 3 1 (.slice bla j blc) j (bs.map (Value.int .i64)) from own_below OQ.out (hwA ▸ ba (Below.refl _ _) _))
                    have NC := Lib.hid (show ∀ t u, ([.int .i64 zz] : List Value)[t]? = some u → wA.cell? ((⟨wq.heap.size, 0, none⟩ : Addr).add t) = some u from fun t u hu => by
                      rw [add_off, Nat.zero_add, ← hwA, World.cell?_alloc_new]
                      simpa using hu)
                    have BSZ := Lib.hid BA.out.size
                    clear hwA hwq PK hzz
                    go_wp2_with (first
                      | (at_builtin; refine wpList_append_own2 rfl _ _ 29 rfl w4.heap.size 3 i0 (.int .i64 0) 1 8 Try.underlying29 hi0 hz0 hz1 hz2 rfl (by decide) (.slice bla j blc) j (bs.map (Value.int .i64)) rfl OA.out ⟨wq.heap.size, 0, none⟩ 1 1 [.int .i64 zz] rfl rfl NC.out (fun u hu => by simp at hu; subst hu; rfl) (by unfold maxLen; omega) (by omega) BSZ.out ?_; intro bv2 w6 hown6 hgrow6 _; obtain ⟨ba2, bc2, rfl⟩ := own_is hown6; have HO6 := Lib.hid hown6; have HB6 := Lib.hid (BA.out.grown hgrow6 BSZ.out (fun k e => own_block_ge OA.out e)); clear hown6 hgrow6)
                      | simp only [HWA.out])
                    go_roundw
                    case rel => exact ⟨j + 1, bs ++ [zz], by omega, by go_num, by rw [List.length_append, BLN.out]; rfl, fun t ht => by
                      rcases List.mem_append.1 ht with h | h
                      · exact BSF.out t h
                      · rw [List.mem_singleton.1 h]
                        exact ZS.out, by rw [List.map_append]; exact HO6.out, HB6.out⟩
                    case measure => simp [intOf]; omega
                  · have v1 : decide ((0 : Int) < (nv : Int)) = false := by simp; omega
                    have v2 : decide (0 < nv) = false := decide_eq_false v0
                    obtain ⟨z, hz⟩ : ∃ z : Int, (j : Int) = z := ⟨_, rfl⟩
                    have wz : (Lit.int .i64 z).wf = true := by
                      rw [← hz]
                      simp only [Lit.wf]
                      have : IntKind.i64.min = -9223372036854775808 := rfl
                      have : IntKind.i64.max = 9223372036854775807 := rfl
                      simp
                      omega
                    obtain ⟨pz, hpz⟩ : ∃ x, (z % (16 : Int)).toNat = x := ⟨_, rfl⟩
                    have PK := Lib.hid (fun w => show Calls Try.prog 20 #[.int .i64 z, .int .i64 16] w (fun e w' => e = .returned (.int .i64 (pz : Nat)) ∧ w = w') from by rw [← hpz]; exact pick_any z wz 16 (by omega) (by omega) w)
                    have pz16 : pz < 16 := by omega
                    obtain ⟨zz, hzz⟩ : ∃ zz : Int, (pz : Int) - 8 = zz := ⟨_, rfl⟩
                    have zz1 : IntKind.i64.wrap ((pz : Int) - 8) = zz := by rw [IntKind.wrap_i64]; omega
                    have ZS := Lib.hid (show -8 ≤ zz ∧ zz ≤ 7 by omega)
                    clear hpz wz
                    go_wp2_with fail
                    (with_reducible refine (PK.out _).mono ?_)
                    rintro e wp ⟨rfl, rfl⟩
                    obtain ⟨wq, hwq⟩ : ∃ wq, wl = wq := ⟨_, rfl⟩
                    rw [hwq]
                    have BQ := Lib.hid (show Below w4.heap.size w4 wq from by rw [← hwq]; exact BL.out)
                    have OQ := Lib.hid (show wq.ownsRow w4.heap.size 3 1 (.slice bla j blc) j (bs.map (Value.int .i64)) from by rw [← hwq]; exact OL.out)
                    obtain ⟨wA, hwA⟩ : ∃ wA, wq.alloc (.cells #[.int .i64 zz] 3) = wA := ⟨_, rfl⟩
                    have HWA := Lib.hid hwA
                    have BA := Lib.hid (show Below w4.heap.size w4 wA from hwA ▸ ba BQ.out _)
                    have OA := Lib.hid (show wA.ownsRow w4.heap.size 3 1 (.slice bla j blc) j (bs.map (Value.int .i64)) from own_below OQ.out (hwA ▸ ba (Below.refl _ _) _))
                    have NC := Lib.hid (show ∀ t u, ([.int .i64 zz] : List Value)[t]? = some u → wA.cell? ((⟨wq.heap.size, 0, none⟩ : Addr).add t) = some u from fun t u hu => by
                      rw [add_off, Nat.zero_add, ← hwA, World.cell?_alloc_new]
                      simpa using hu)
                    have BSZ := Lib.hid BA.out.size
                    clear hwA hwq PK hzz
                    go_wp2_with (first
                      | (at_builtin; refine wpList_append_own2 rfl _ _ 29 rfl w4.heap.size 3 i0 (.int .i64 0) 1 8 Try.underlying29 hi0 hz0 hz1 hz2 rfl (by decide) (.slice bla j blc) j (bs.map (Value.int .i64)) rfl OA.out ⟨wq.heap.size, 0, none⟩ 1 1 [.int .i64 zz] rfl rfl NC.out (fun u hu => by simp at hu; subst hu; rfl) (by unfold maxLen; omega) (by omega) BSZ.out ?_; intro bv2 w6 hown6 hgrow6 _; obtain ⟨ba2, bc2, rfl⟩ := own_is hown6; have HO6 := Lib.hid hown6; have HB6 := Lib.hid (BA.out.grown hgrow6 BSZ.out (fun k e => own_block_ge OA.out e)); clear hown6 hgrow6)
                      | simp only [HWA.out])
                    go_roundw
                    case rel => exact ⟨j + 1, bs ++ [zz], by omega, by go_num, by rw [List.length_append, BLN.out]; rfl, fun t ht => by
                      rcases List.mem_append.1 ht with h | h
                      · exact BSF.out t h
                      · rw [List.mem_singleton.1 h]
                        exact ZS.out, by rw [List.map_append]; exact HO6.out, HB6.out⟩
                    case measure => simp [intOf]; omega
                · have j1 : decide ((j : Int) < (L : Int)) = false := by simp; omega
                  have JL := Lib.hid (show j = L by omega)
                  obtain ⟨gb, cb, hv, hcb, lgb⟩ := own_at0 OL.out (show 0 < j by omega)
                  simp only [Value.slice.injEq, true_and] at hv
                  obtain ⟨rfl, rfl⟩ := hv
                  have CV := Lib.hid (show (convert 53 9 (.slice (some ⟨g, 0, none⟩) 32 D)).run Try.prog wl = .ok (.string (flS fl)) wl from nums_back D (N4.out.below BL.out))
                  have SF := Lib.hid (fun w => show Calls Try.prog 30 #[.string (flS fl)] w (fun e w' => ∃ v, e = .returned v ∧ w'.ownsRow w.heap.size 3 1 v 32 ((flZ fl).map (Value.int .i64)) ∧ Below w.heap.size w w') from by
                    have := lsoften_any (flS fl) 32 (flS_size fl) (by omega) (flS_ok fl) w
                    rw [zlist_zof] at this
                    exact this)
                  have SSL := Lib.hid (flZ_len fl)
                  have SSS := Lib.hid (flZ_soft fl)
                  obtain ⟨Y, hY⟩ : ∃ Y, flS fl = Y := ⟨_, rfl⟩
                  obtain ⟨ss, hss⟩ : ∃ ss, flZ fl = ss := ⟨_, rfl⟩
                  rw [hY] at CV SF
                  rw [hss] at SF SSL SSS BN
                  have zb : zs.length ≤ 6640 := by
                    have h1 := HI.out.len
                    have h2 := Nat.mul_le_mul (show i ≤ 20 by omega) (show 32 + L ≤ 332 by omega)
                    omega
                  obtain ⟨j0, hj0, hy0, hy1, hy2⟩ := info_parts info_ints
                  have GB := Lib.hid (show w4.heap.size ≤ gb from (OL.out.lt gb rfl).1)
                  clear hY hss N4 CR RV WF NV
                  go_wp2_with (simp only [CV.out])
                  (with_reducible refine (SF.out _).mono ?_)
                  rintro e w5 ⟨v, rfl, hv5, h5⟩
                  obtain ⟨sb, sc, rfl, hsc, lsb⟩ := own_at0 hv5 (by omega)
                  have B5 := Lib.hid (bt (bt B4.out BL.out) h5)
                  have O5 := Lib.hid (own_below HM.out.all B5.out)
                  have SC5 := Lib.hid (hv5.cells (g := sb) rfl)
                  have OB5 := Lib.hid (own_below OL.out h5)
                  have ONE := Lib.hid (show ∀ l : List Int, ∀ u ∈ l.map (Value.int .i64), u.oneCell' = true from fun l u hu => by
                    obtain ⟨_, _, rfl⟩ := List.mem_map.1 hu
                    rfl)
                  have BS5 := Lib.hid (show w.heap.size ≤ w5.heap.size from (bt HM.out.bel B5.out).size)
                  have SCB := Lib.hid (fun (w6 : World) (G : w5.grownBy w6 (Value.slice aa zs.length ac).ownBlock) => show ∀ t u, (bs.map (Value.int .i64))[t]? = some u → w6.cell? ((⟨gb, 0, none⟩ : Addr).add t) = some u from fun t u hu => by
                    have c := OB5.out.cells (g := gb) rfl t u hu
                    rw [add_off] at c ⊢
                    exact (World.cell?_of_block (w := w5) (w' := w6) (a := ⟨gb, 0 + t, none⟩) (G.block gb (OB5.out.lt gb rfl).2 (fun e => by
                      have := (HM.out.all.lt gb e.symm).2
                      have := GB.out
                      have := B4.out.size
                      omega))).trans c)
                  have LS := Lib.hid (show (ss.map (Value.int .i64)).length = 32 * 1 by rw [List.length_map, SSL.out])
                  have LB := Lib.hid (show (bs.map (Value.int .i64)).length = j * 1 by rw [List.length_map, BLN.out, Nat.mul_one])
                  clear hv5 h5 SF CV MK CW
                  go_wp2_with (first
                    | (at_builtin; refine wpList_append_own2 rfl _ _ 51 rfl w.heap.size 29 j0 (.slice none 0 0) 1 24 Try.underlying51 hj0 hy0 hy1 hy2 rfl (by decide) (.slice la i lc) i cs rfl O8.out ⟨w7.heap.size, 0, none⟩ 1 1 [.slice (some ⟨gb, 0, none⟩) j blc] rfl rfl NC8.out (fun u hu => by simp at hu; subst hu; rfl) (by unfold maxLen; omega) (by omega) BS8.out ?_; intro bl2 w9 hown9 hgrow9 _; obtain ⟨b2a, b2c, rfl⟩ := own_is hown9; have HO9 := Lib.hid hown9; have HG9 := Lib.hid hgrow9; clear hown9 hgrow9)
                    | (at_builtin; refine wpList_append_own2 rfl _ _ 29 rfl w.heap.size 3 i0 (.int .i64 0) 1 8 Try.underlying29 hi0 hz0 hz1 hz2 rfl (by decide) (.slice v1a (zs.length + 32) v1c) (zs.length + 32) _ rfl HO6.out ⟨gb, 0, none⟩ j blc (bs.map (Value.int .i64)) rfl LB.out (SCB.out w6 HG6.out) (ONE.out bs) (by unfold maxLen; omega) (by omega) (Nat.le_trans BS5.out HG6.out.size) ?_; intro v2 w7 hown7 hgrow7 hblk7; obtain ⟨v2a, v2c, rfl⟩ := own_is hown7; have HO7 := Lib.hid hown7; have HG7 := Lib.hid hgrow7; have HK7 := Lib.hid hblk7; obtain ⟨w8, hw8⟩ : ∃ w8, w7.alloc (.cells #[.slice (some ⟨gb, 0, none⟩) j blc] 29) = w8 := ⟨_, rfl⟩; have HW8 := Lib.hid hw8; have HB8 := Lib.hid (show Below w7.heap.size w7 w8 from hw8 ▸ ba (Below.refl _ _) _); have O8 := Lib.hid (HM.out.row8 B5.out HG6.out HO6.out hgrow7 HB8.out); have NC8 := Lib.hid (show ∀ t u, ([.slice (some ⟨gb, 0, none⟩) j blc] : List Value)[t]? = some u → w8.cell? ((⟨w7.heap.size, 0, none⟩ : Addr).add t) = some u from fun t u hu => by rw [add_off, Nat.zero_add, ← hw8, World.cell?_alloc_new]; simpa using hu); have BS8 := Lib.hid (show w.heap.size ≤ w8.heap.size from Nat.le_trans (Nat.le_trans (Nat.le_trans BS5.out HG6.out.size) hgrow7.size) HB8.out.size); clear hown7 hgrow7 hblk7 hw8)
                    | (at_builtin; refine wpList_append_own2 rfl _ _ 29 rfl w.heap.size 3 i0 (.int .i64 0) 1 8 Try.underlying29 hi0 hz0 hz1 hz2 rfl (by decide) (.slice aa zs.length ac) zs.length (zs.map (Value.int .i64)) rfl O5.out ⟨sb, 0, none⟩ 32 sc (ss.map (Value.int .i64)) rfl LS.out SC5.out (ONE.out ss) (by unfold maxLen; omega) (by omega) BS5.out ?_; intro v1 w6 hown6 hgrow6 hblk6; obtain ⟨v1a, v1c, rfl⟩ := own_is hown6; have HO6 := Lib.hid hown6; have HG6 := Lib.hid hgrow6; have HK6 := Lib.hid hblk6; clear hown6 hgrow6 hblk6)
                    | simp only [HW8.out])
                  have DN := Lib.hid (HM.out.next (ss := ss) (bs := bs) HI.out.len SSL.out (by rw [BLN.out, JL.out]) B5.out (by rw [← JL.out]; exact own_mono OB5.out B4.out.size) HG6.out HK6.out (by rw [← JL.out]; exact HO7.out) HG7.out HK7.out HB8.out HO9.out HG9.out)
                  have DI := Lib.hid (HI.out.next (ss := ss) (bs := bs) SSL.out (by rw [BLN.out, JL.out]) SSS.out BSF.out (BN.out HI.out))
                  go_roundw
                  case rel => exact ⟨i + 1, mm, _, _, by omega, by go_num, rfl, DI.out, DN.out⟩
                  case measure => simp [intOf]; omega
    · have k1 : decide ((i : Int) < (n : Int)) = false := by simp; omega
      have PN := Lib.hid (fun w => pnew_any L L1 (by omega) w)
      have SO := Lib.hid (show softOk zs = true from (softOk_iff zs).2 (fun j hj => by
        have := HI.out.soft (zs.getD j 0) (by rw [List.getD_eq_getElem?_getD, List.getElem?_eq_getElem hj]; exact List.getElem_mem _)
        exact this))
      have zb : zs.length ≤ 6640 := by
        have h1 := HI.out.len
        have h2 := Nat.mul_le_mul (show i ≤ 20 by omega) (show 32 + L ≤ 332 by omega)
        omega
      obtain ⟨t0, hrun, hlk, _⟩ := Mk.bridged_all (v := fz zs) (len := L) (K := i) (w := wfz L zs) (fun _ _ => rfl) HI.out.first HI.out.all
      rw [← HI.out.len] at hrun
      have RUN := Lib.hid hrun
      have HLK := Lib.hid hlk
      have ZL := Lib.hid HI.out.len
      have IN := Lib.hid (show i ≤ n from hi)
      clear hrun hlk HI
      go_wp2_with fail
      (with_reducible refine (PN.out _).mono ?_)
      rintro e w2 ⟨own, P, rfl, pf, on, h2⟩
      have ON := Lib.hid on
      have B2 := Lib.hid h2
      have FD := Lib.hid (pfeed_any own w2 (.pointer (some P)) L [] Mk.Fs.init pf L1 (by omega) aa zs.length ac zs rfl (by simp only [List.length_nil]; omega) (ints_of_own (own_below HM.out.all h2)).1 SO.out (fun _ g o e q => by
        have := on g q
        have := (HM.out.all.lt g (by rw [e]; rfl)).2
        omega))
      clear pf on h2 PN SO
      go_wp2_with fail
      (with_reducible refine FD.out.mono ?_)
      rintro e w3 ⟨own', o, t, oa, oc, rfl, hoc, hr, pf3, on3, br, bu⟩
      rw [List.nil_append] at hr pf3 br
      obtain ⟨rfl, rfl⟩ := hr.unique RUN.out
      have ol : ((List.range i).map fun k => (k * (32 + L), wfz L zs k)).length = i := by simp
      rw [ol]
      have PF3 := Lib.hid pf3
      have BR3 := Lib.hid br
      have BU3 := Lib.hid bu
      have nn : ((i : Int) != (i : Int)) = false := by simp
      have B3 := Lib.hid (Buts.below (bt HM.out.bel B2.out) bu (fun c hc => by have := ON.out c hc; have := HM.out.bel.size; omega) (bt HM.out.bel B2.out).size)
      clear hr pf3 on3 br bu hoc FD RUN ol
      go_wp2_with fail
      go_loopw [21] (fun x wz => ∃ (j m : Nat), j ≤ i ∧ x = .int .i64 (j : Nat) ∧ wz = w3.drewN m) (fun x _ => i - (intOf x).toNat)
      case atStart => exact ⟨0, 0, Nat.zero_le _, rfl, rfl⟩
      case round =>
        obtain ⟨j, md, hj, rfl, hw⟩ := hrel
        rename World => wz
        by_cases hlt : j < i
        · have j1 : decide ((j : Int) < (i : Int)) = true := by simp; omega
          have j2 : decide (j < i) = true := decide_eq_true hlt
          have j9 : (j : Int) < (i : Int) := by omega
          have hxb : (blks zs L ((List.range i).map fun k => (k * (32 + L), wfz L zs k)))[j]? = some (j * (32 + L), wfz L zs j, seg zs (j * (32 + L) + 32) L) := by
            unfold blks
            rw [List.getElem?_map, List.getElem?_map, List.getElem?_range hlt]
            rfl
          rcases BR3.out with h0 | ⟨B1, off1, rfl, _, lB1, hcell⟩
          · rw [h0] at hxb
            simp at hxb
          obtain ⟨x1, _, sa5, sc5, x3, xi, _⟩ := hcell j _ hxb
          simp only at x1 x3 xi
          have be := block_end (L := L) hlt
          have sgl : (seg zs (j * (32 + L) + 32) L).length = L := seg_len _ _ _ (by have := ZL.out; omega)
          rw [sgl] at x3
          replace x1 := (cellD hw ⟨B1, off1 + j * 3, none⟩).trans x1
          replace x3 := (cellD hw ⟨B1, off1 + j * 3 + 2, none⟩).trans x3
          obtain ⟨sv, hsv, hso, _⟩ := HM.out.blk j hlt
          obtain ⟨s2a, s2c, rfl⟩ := own_is hso
          obtain ⟨lb, lcap, hlv, _, llb⟩ := own_at0 HM.out.row (show 0 < i by omega)
          simp only [Value.slice.injEq, true_and] at hlv
          obtain ⟨rfl, rfl⟩ := hlv
          have nown : ∀ k, k < wr.heap.size → w3.heap[k]? = wr.heap[k]? := fun k hk => (BU3.out.block k (Nat.lt_of_lt_of_le hk B2.out.size) (fun q => by have := ON.out k q; omega)).trans (B2.out.block k hk)
          have y1 := HM.out.row.cells (g := lb) rfl j _ hsv
          rw [add_off, Nat.zero_add] at y1
          have y2 := (cellD hw ⟨lb, j, none⟩).trans ((World.cell?_of_block (w := wr) (w' := w3) (a := ⟨lb, j, none⟩) (nown lb llb)).trans y1)
          have i2 : Ints w3 s2a (seg zs (j * (32 + L) + 32) L) := (ints_of_own (own_keep (w' := w3) hso (fun g hg hl => nown g hl))).1
          obtain ⟨b, hb⟩ : ∃ b, 32 + L = b := ⟨_, rfl⟩
          obtain ⟨pl, hpl⟩ : ∃ pl, j * b = pl := ⟨_, rfl⟩
          have e1 : (32 : Int) + (L : Int) = (b : Int) := by omega
          have e2 : (j : Int) * (b : Int) = (pl : Int) := by rw [← hpl]; exact (Int.natCast_mul j b).symm
          have plb : pl ≤ 6640 := by
            rw [← hpl, ← hb]
            have := ZL.out
            omega
          have e3 : IntKind.i64.wrap ((j : Int) * (b : Int)) = (pl : Int) := by rw [e2, IntWalk.i64_in _ (by omega)]
          rw [hb, hpl] at x1 xi i2 sgl
          have p0 : ((pl : Int) != (pl : Int)) = false := by simp
          have SQ := Lib.hid (fun nq => sameIntsQ_any sa5 s2a sc5 s2c (seg zs (pl + 32) L) L sgl (by omega) (wz.drewN nq) (by rw [hw]; exact xi) (by rw [hw]; exact i2))
          have HW2 := Lib.hid hw
          clear hw hxb hcell xi i2 hso hsv y1 nown hb hpl be
          go_wp2_with fail
          go_quiet ((go_at_call 28; exact Calls.quiet_of (SQ.out _)))
          go_wp2_with fail
          go_roundw
          case rel => exact ⟨j + 1, md + nq, by omega, by go_num, by rw [HW2.out, World.drewN_drewN]⟩
          case measure => simp [intOf]; omega
        · have j1 : decide ((j : Int) < (i : Int)) = false := by simp; omega
          have LK := Lib.hid (plocked_any own' wz (.pointer (some P)) L zs t (PF3.out.keep (by rw [hw]; exact Nat.le_refl _) (fun _ _ _ => by rw [hw]; rfl)))
          rw [HLK.out] at LK
          have BW := Lib.hid (below_drewN B3.out md)
          rw [← hw] at BW
          obtain ⟨c, hc⟩ : ∃ c, decide (0 < i) = c := ⟨_, rfl⟩
          have c1 : decide ((0 : Int) < (i : Int)) = c := by
            rw [← hc]
            exact decide_eq_decide.2 (by omega)
          have c2 : (c == c) = true := by simp
          rw [hc] at LK
          clear hw
          go_wp2_with fail
          (with_reducible refine (LK.out).mono ?_)
          rintro e w5 ⟨rfl, m5, h5⟩
          have B5 := Lib.hid (show Below w.heap.size w w5 from by rw [h5]; exact below_drewN BW.out _)
          clear h5
          go_wp2_with fail
          (with_reducible refine (AW.out _).mono ?_)
          rintro e w6 ⟨rfl, h6⟩
          have B6 := Lib.hid (bt B5.out h6)
          clear h6
          go_wp2_with fail
          go_ret
          exact ⟨rfl, B6.out⟩

set_option maxRecDepth 100000 in
theorem lifted (os : Os) (started : os.Started) (H : Type) (enc : TypeId × Value → H) :
    ReturnsInHanded {} Try.checked os 6 .any (Rows.markerBridgesSpec.pre6 enc Try.prog Try.f6 Rows.markerBridgesRow.domain false) (Rows.markerBridgesSpec.post enc Try.prog Try.f6 false true false false) := by
  refine returnsInHanded_of_change (C := Try.checked) own started (by kernel_rfl) Try.func6
    (ChangeSpec.witness6 (enc := enc) (C := Try.checked) false ⟨#[], #[.slice none 0 0, .int .i64 0, .slice none 0 0], []⟩ 8 (by kernel_rfl) (by kernel_rfl) (by kernel_rfl) (by kernel_rfl)) ?_
  intro W base args ds gs before hval0 hW _ _
  have hval : ∀ (j : Nat) t v, Try.f6.params[j]? = some t → args[j]? = some v → Value.okWide Try.prog W .any base t v := hval0
  have hW' := hW
  obtain ⟨p, q, hA0, hV, rfl, hfz, hnd⟩ := hW
  have hA : DataW.TrodAll enc Try.prog W 0 (fun _ => true) true Try.f6.params.toList args.toList ds p := hA0
  rw [Try.params6] at hA hval
  obtain ⟨v0, vs0, d0, ds0, p0, q0, hargs, rfl, rfl, h0, r0⟩ := trodAll_cons hA
  obtain ⟨v1, vs1, d1, ds1, p1, q1, rfl, rfl, rfl, h1, r1⟩ := trodAll_cons r0
  obtain ⟨v2, vs2, d2, ds2, p2, q2, rfl, rfl, rfl, h2, r2⟩ := trodAll_cons r1
  obtain ⟨rfl, rfl, rfl⟩ := trodAll_nil r2
  obtain rfl : args = #[v0, v1, v2] := by cases args; simp_all
  obtain ⟨rfl, rfl⟩ := trodVars_none hV
  obtain ⟨x0, y0, z0, e0⟩ := okWide_slice Try.underlying51 (hval 0 51 v0 rfl rfl)
  have S0 := rows_arg (by rw [e0]; rfl) h0
  clear e0
  obtain ⟨ao0, zs0, cap0, rfl, l0, m0, R0, shut0⟩ := S0
  obtain ⟨a1, rfl, rfl, rfl, w1⟩ := open_int Try.underlying3 (hval 1 3 v1 rfl rfl) h1
  obtain ⟨x2, y2, z2, e2⟩ := okWide_slice Try.underlying52 (hval 2 52 v2 rfl rfl)
  obtain ⟨zs2, S2⟩ := slice_arg (k := .u32) Try.underlying52 Try.underlying55 cells_u32 (by rw [e2]; rfl) h2
  clear e2
  obtain ⟨⟨ao2, cap2, rfl, l2, m2, R2⟩, w2, shut2⟩ := S2
  clear hA0 hval0
  simp only [List.append_nil] at hW'
  refine (walk ao0 cap0 zs0 l0 m0 a1 w1 ao2 cap2 zs2 l2 m2 w2 W R0 R2).mono fun e W' ⟨he, hg⟩ => ?_
  subst he
  exact ⟨_, rfl, post_of_below (pa := (p0 ++ ([] ++ (p2 ++ [])))) (pv := []) hW' (fun _ _ _ => trodAll_cons_mk (shut_bool Try.underlying4 _) trodAll_mk0) (fun sp hsp => (trodAll_cons_mk (shut0 W' hg sp (fun q hq => hsp q (by simp [hq]))) (trodAll_cons_mk (shut_int Try.underlying3 w1) (trodAll_cons_mk (shut2 W' hg sp (fun q hq => hsp q (by simp [hq]))) trodAll_mk0)))) (fun _ _ => rfl) (by simp)
    hg (ok_one (by kernel_rfl) rfl (okWide_bool_mk Try.underlying4 _))⟩

theorem proved : Rows.MarkerBridgesSaid :=
  OpenClaim.holds_of_wide 6 Try.f6 rfl rfl rfl rfl rfl rfl rfl ⟨rfl, rfl, rfl, rfl, rfl⟩ rfl rfl rfl rfl rfl (by kernel_rfl) Try.func6 (by kernel_rfl)
    (of_decide_eq_true (by kernel_rfl)) (by unfold Func.isWrapper; first | (rw [if_pos (by decide +kernel)]; kernel_rfl) | (rw [if_neg (by decide +kernel)]; exact ⟨rfl, rfl⟩))
    (fun os started H enc _ => lifted os started H enc)
#print axioms proved
end markerBridges
end Go.Proofs.Ytlfnglinalmpjaa
