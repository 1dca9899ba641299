/- The contract of the reference's Unpack over this program, for all widths and strings of at most 5000 bytes. -/
import Derived.Test.YtgfjmolihobaeaaFldRefU
namespace Go.Proofs.Ytgfjmolihobaeaa
open Go.RowKit Go.Shelf
set_option linter.unusedVariables false

namespace Fld
/-- The first k values. -/
def valsK (ns : List Nat) (l : List UInt8) (k : Nat) : List Value := (((List.range k).map (uv l ns)).map Int.ofNat).map (Value.int .u64)
theorem valsK_succ (ns : List Nat) (l : List UInt8) (k : Nat) : valsK ns l (k + 1) = valsK ns l k ++ [.int .u64 (uv l ns k : Nat)] := by
  unfold valsK
  rw [List.range_succ]
  simp
end Fld

theorem own_block_ge {w : World} {base e size n g : Nat} {v : Value} {xs : List Value} (h : w.ownsRow base e size v n xs) (hg : v.ownBlock = some g) : base ≤ g := by
  rcases h.2 with ⟨rfl, _⟩ | ⟨g', c, _, rfl, hb, _⟩
  · cases hg
  · cases hg; exact hb

set_option maxRecDepth 100000 in
set_option maxHeartbeats 4000000 in
theorem runp_ok (a : Option Addr) (cap : Nat) (zs : List Int) (s : ByteArray) (n : Nat) (hn : zs.length = n) (hl : n ≤ 500) (hs : s.size ≤ 5000) (hw : Fld.allW zs = true) (heq : s.size = (Fld.tot (Fld.nats zs) + 7) / 8) (w : World) (R : Reads .i64 w a zs) :
    Calls Try.prog 22 #[.slice a n cap, .string s] w (Unpacked zs s.data.toList w) := by
  have ls : s.data.toList.length = s.size := by simp
  have A := Lib.hid (rall_any a cap zs (by omega) w R)
  rw [hw, hn] at A
  have L := Lib.hid (fun w => rlong_any s (by omega) w)
  rw [decide_eq_false (by omega)] at L
  have nl : (Fld.nats zs).length = n := by rw [Fld.nats_length, hn]
  have nb : ∀ j, j < (Fld.nats zs).length → (Fld.nats zs).getD j 0 ≤ 64 := fun j hj => (Fld.nats_get hw j (by omega)).2.2
  have R2 : Reads .i64 w a ((Fld.nats zs).map Int.ofNat) := by rw [Fld.nats_map hw]; exact R
  have T := Lib.hid (rbits_any a cap (Fld.nats zs) (by omega) nb w R2)
  have tb := Fld.tot_le (Fld.nats zs) 64 nb (Fld.nats zs).length (Nat.le_refl _)
  rw [List.take_length] at tb
  have TM := Lib.hid (Fld.tot_mono (Fld.nats zs))
  have TS := Lib.hid (Fld.tot_take_succ (Fld.nats zs))
  have U0 := Lib.hid (fun (h : Fld.restB s.data.toList (Fld.tot (Fld.nats zs)) = true) => show Fld.unpE zs s.data.toList = 0 by unfold Fld.unpE; rw [if_pos hw, if_pos ⟨by rw [ls]; exact heq, h⟩])
  have U6 := Lib.hid (fun (h : Fld.restB s.data.toList (Fld.tot (Fld.nats zs)) ≠ true) => show Fld.unpE zs s.data.toList = 6 by unfold Fld.unpE; rw [if_pos hw, if_neg (fun k => h k.2)])
  have RB := Lib.hid (Fld.restB_iff s.data.toList (Fld.tot (Fld.nats zs)))
  have RV := Lib.hid (fun (w' : World) (a : Option Addr) (cap base e : Nat) (h : Fld.unpE zs s.data.toList = 0) ho hb => runp_values (w := w) (w' := w') (a := a) (cap := cap) (base := base) (e := e) h nl ho hb)
  have VK := Lib.hid (show Fld.valsK (Fld.nats zs) s.data.toList n = ((Fld.vals (Fld.nats zs) s.data.toList).map Int.ofNat).map (Value.int .u64) by unfold Fld.valsK Fld.vals; rw [nl])
  have RC := Lib.hid (fun (h : 0 < n) => R2.cell (by rw [List.length_map, nl]; exact h))
  obtain ⟨t, ht⟩ : ∃ t, Fld.tot (Fld.nats zs) = t := ⟨_, rfl⟩
  have FT := Lib.hid (show Fld.tot ((Fld.nats zs).take n) = t by rw [← nl, List.take_length]; exact ht)
  rw [ht] at T tb heq TM U0 U6 RB
  rw [nl] at T
  have t1 : t ≤ 40000 := by omega
  have q3 : ((s.size : Int) == ((t : Int) + 7) / 8) = true := by simp; omega
  have q4 : ((s.size : Int) != ((t : Int) + 7) / 8) = false := by simp; omega
  have NB := Lib.hid nb
  have NL := Lib.hid nl
  have HEQ := Lib.hid heq
  have LS := Lib.hid ls
  obtain ⟨ns, hns⟩ : ∃ ns, Fld.nats zs = ns := ⟨_, rfl⟩
  rw [hns] at TM TS VK RC FT NB NL RV
  clear hw hn R R2 tb nb nl ht ls heq hns
  go_enter Try.func22, Try.ntmps22
  go_wp2_with fail
  (with_reducible refine (L.out _).mono ?_)
  rintro e w' ⟨rfl, rfl⟩
  go_wp2_with fail
  (with_reducible refine A.out.mono ?_)
  rintro e w' ⟨rfl, rfl⟩
  go_wp2_with fail
  (with_reducible refine T.out.mono ?_)
  rintro e w' ⟨rfl, rfl⟩
  go_wp2_with fail
  go_loopw [7, 8, 9] (fun o p i wr => ∃ k : Nat, k ≤ n ∧ i = .int .i64 k ∧ p = .int .i64 (Fld.tot (ns.take k) : Nat) ∧ wr.ownsRow w.heap.size 23 1 o k (Fld.valsK ns s.data.toList k) ∧ Below w.heap.size w wr) (fun _ _ i _ => n - (intOf i).toNat)
  case atStart => exact ⟨0, Nat.zero_le _, rfl, rfl, World.ownsRow_nil _ _ _ _, Below.refl _ _⟩
  case round =>
    obtain ⟨k, hk, rfl, rfl, hown, hB⟩ := hrel
    by_cases hlt : k < n
    · obtain ⟨b1, o1, rfl, l1, c1⟩ := RC.out (by omega)
      have q0 := c1 k (by rw [List.length_map, NL.out]; exact hlt)
      rw [getD_ofNat _ _ (by rw [NL.out]; exact hlt)] at q0
      have q1 := (hB.cell (p := ⟨b1, o1 + k, none⟩) l1).trans q0
      have ts := TS.out k (by rw [NL.out]; exact hlt)
      have tm := TM.out (k + 1)
      have heq := HEQ.out
      have nb := NB.out k (by rw [NL.out]; exact hlt)
      have vs := Fld.valsK_succ ns s.data.toList k
      have uvk : Fld.uv s.data.toList ns k = Fld.num s.data.toList (Fld.tot (ns.take k)) (ns.getD k 0) := rfl
      obtain ⟨x, hx⟩ : ∃ x, ns.getD k 0 = x := ⟨_, rfl⟩
      obtain ⟨p, hp⟩ : ∃ p, Fld.tot (ns.take k) = p := ⟨_, rfl⟩
      obtain ⟨p', hp'⟩ : ∃ p, Fld.tot (ns.take (k + 1)) = p := ⟨_, rfl⟩
      rw [hx] at q0 q1 ts nb uvk
      have Q0 := Lib.hid q0
      rw [hp] at ts uvk ⊢
      rw [hp'] at ts tm
      have NU := Lib.hid (rnumber_any s p x (by omega) (by omega) nb wr)
      rw [uvk] at vs
      obtain ⟨u, hu⟩ : ∃ u, Fld.num s.data.toList p x = u := ⟨_, rfl⟩
      rw [hu] at NU vs
      have HO := Lib.hid hown
      have HB := Lib.hid hB
      have VS := Lib.hid vs
      have TS2 := Lib.hid ts
      have HP := Lib.hid hp'
      have p1 : p ≤ 50000 := by omega
      obtain ⟨i0, hi, hz0, hz1, hz2⟩ := info_parts info_u64
      have B1 := Lib.hid (hB.alloc hB.size (.cells #[.int .u64 (u : Int)] 23))
      clear q0 hown hB vs ts tm uvk hu hx hp hp' c1 heq
      go_wp2_with fail
      (with_reducible refine NU.out.mono ?_)
      rintro e w' ⟨rfl, rfl⟩
      go_wp2_with (at_builtin; refine wpList_append_own _ rfl _ _ 37 rfl w.heap.size 23 i0 (.int .u64 0) 1 8 Try.underlying37 hi hz0 hz1 hz2 rfl (by decide) _ _ _ rfl (HO.out.alloc _) ⟨wr.heap.size, 0, none⟩ 1 1 [.int .u64 (u : Int)] rfl rfl cell_one (by simp [Value.oneCell']) (by unfold maxLen; omega) (by omega) (by have := HB.out.size; simp; omega) ?_; intro v' w2 hown2 hgrow _; obtain ⟨g', cap', rfl⟩ := ownsRow_succ hown2; have HO2 := Lib.hid hown2; have BW2 := Lib.hid (B1.out.grown hgrow B1.out.size (fun k e => own_block_ge HO.out e)); have q2 := (BW2.out.cell (p := ⟨b1, o1 + k, none⟩) l1).trans Q0.out; clear hown2 hgrow)
      go_roundw
      case rel => exact ⟨k + 1, by omega, by go_num, by rw [HP.out, TS2.out]; go_num, by rw [VS.out]; exact HO2.out, BW2.out⟩
      case measure => simp [intOf]; omega
    · obtain rfl : n = k := by omega
      rw [FT.out]
      rw [VK.out] at hown
      have HO := Lib.hid hown
      have HB := Lib.hid hB
      obtain ⟨ao, ac, rfl⟩ := own_slice hown
      clear hown hB
      go_wp2_with fail
      go_loop [8] (fun p => ∃ q : Nat, t ≤ q ∧ q ≤ 8 * s.size ∧ p = .int .i64 q ∧ ∀ i, t ≤ i → i < q → Fld.bit s.data.toList i = 0) (fun p => 8 * s.size - (intOf p).toNat)
      case atStart => exact ⟨t, Nat.le_refl _, by have := HEQ.out; omega, rfl, fun i h1 h2 => by omega⟩
      case round =>
        obtain ⟨q, hq1, hq2, rfl, hz⟩ := hrel
        have HZ := Lib.hid hz
        clear hz
        by_cases hlt2 : q < 8 * s.size
        · have BT := Lib.hid (rbit_any s q (by omega) hlt2 wr)
          obtain ⟨x, hx⟩ : ∃ x, Fld.bit s.data.toList q = x := ⟨_, rfl⟩
          have x2 : x < 2 := by rw [← hx]; exact Fld.bit_lt _ _
          rw [hx] at BT
          by_cases x0 : x = 0
          · have STP := Lib.hid (show ∀ i, t ≤ i → i < q + 1 → Fld.bit s.data.toList i = 0 from fun i h1 h2 => by
              by_cases e : i = q
              · subst e; rw [hx]; exact x0
              · exact HZ.out i h1 (by omega))
            subst x0
            clear hx
            go_wp2_with fail
            (with_reducible refine BT.out.mono ?_)
            rintro e w' ⟨rfl, rfl⟩
            go_wp2_with fail
            go_round
            case rel => exact ⟨q + 1, by omega, by omega, by go_num, STP.out⟩
            case measure => simp [intOf]; omega
          · obtain rfl : x = 1 := by omega
            have QQ := Lib.hid (unpacked_no (U6.out (fun h => by have := RB.out.1 h q hq1 (by rw [LS.out]; exact hlt2); omega)) (by omega) HB.out)
            clear hx
            go_wp2_with fail
            (with_reducible refine BT.out.mono ?_)
            rintro e w' ⟨rfl, rfl⟩
            go_wp2_with fail
            go_ret2
            exact QQ.out
        · have QQ := Lib.hid (RV.out wr ao ac _ _ (U0.out (RB.out.2 (fun i h1 h2 => HZ.out i h1 (by rw [LS.out] at h2; omega)))) HO.out HB.out)
          go_wp2_with fail
          go_ret2
          exact QQ.out
end Go.Proofs.Ytgfjmolihobaeaa
