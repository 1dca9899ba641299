/- The contracts of the reference's all, bits, Pack over this program. -/
import Derived.Test.YtgfjmolihobaeaaFldPack2
import Derived.StillTailTactics
namespace Go.Proofs.Ytgfjmolihobaeaa
open Go.RowKit Go.Shelf
set_option linter.unusedVariables false

theorem quiet_left {P : Program} {f : FuncId} {args : Array Value} {w : World} {n : Nat} {v : Value}
    (h : Calls P f args (w.drewN n) fun e w' => e = .returned v ∧ w.drewN n = w') : Calls P f args (w.drewN n) fun e w'' => e = .returned v ∧ ∃ m, w'' = w.drewN m :=
  h.mono fun _ _ ⟨he, hm⟩ => ⟨he, n, hm.symm⟩

theorem bt2 {w a b : World} (h : Below w.heap.size w a) (k : Below a.heap.size a b) : Below w.heap.size w b := h.trans (k.mono h.size)
theorem below_drewN2 {B : Nat} {a w : World} (h : Below B a w) (n : Nat) : Below B a (w.drewN n) := ⟨h.os, h.tape, h.output, h.size, h.block⟩

set_option maxHeartbeats 1000000 in
theorem rall_any (a : Option Addr) (cap : Nat) (zs : List Int) (hl : zs.length ≤ 600) (w : World) (h : Reads .i64 w a zs) :
    Calls Try.prog 43 #[.slice a zs.length cap] w fun e w' => e = .returned (.bool (Fld.allW zs)) ∧ w = w' := by
  rcases h with rfl | ⟨b, off, rfl, hlt, hc⟩
  · show Calls _ _ #[.slice a 0 cap] _ _
    go_enter Try.func43, Try.ntmps43
    go_wp2_with fail
    refine wp_loop_rounds 1 ?_
    rw [rounds_succ]
    go_wp2_with fail
    go_ret
    exact ⟨rfl, rfl⟩
  · obtain ⟨n, hn⟩ : ∃ n, zs.length = n := ⟨_, rfl⟩
    rw [hn] at hl hc ⊢
    have HC := Lib.hid hc
    have HN := Lib.hid hn
    clear hc hn
    go_enter Try.func43, Try.ntmps43
    go_wp2_with fail
    go_loop [3] (fun i => ∃ k : Nat, k ≤ n ∧ i = .int .i64 k ∧ Fld.allW (zs.take k) = true) (fun i => n - (intOf i).toNat)
    case atStart => exact ⟨0, Nat.zero_le _, rfl, rfl⟩
    case round =>
      obtain ⟨k, hk, rfl, ha⟩ := hrel
      by_cases hlt2 : k < n
      · have hcell := HC.out k hlt2
        obtain ⟨z, hz⟩ : ∃ z, zs.getD k 0 = z := ⟨_, rfl⟩
        rw [hz] at hcell
        have S := Fld.allW_take_succ zs k (by have := HN.out; omega)
        rw [ha, hz] at S
        have AFF := Lib.hid (fun (e : Fld.isW z = false) => Fld.allW_false zs k (by have := HN.out; omega) (by rw [hz]; exact e))
        by_cases e1 : z < 1
        · have e0 := AFF.out ((Fld.isW_not z).2 (by omega))
          have AF := Lib.hid e0
          clear S hz ha e0
          go_wp2_with fail
          go_ret
          exact ⟨by rw [AF.out]; rfl, rfl⟩
        · have e1' : decide (z < 1) = false := by simpa using e1
          by_cases e2 : 64 < z
          · have e0 := AFF.out ((Fld.isW_not z).2 (by omega))
            have AF := Lib.hid e0
            clear S hz ha e0
            go_wp2_with fail
            go_ret
            exact ⟨by rw [AF.out]; rfl, rfl⟩
          · have e2' : decide (64 < z) = false := by simpa using e2
            have e : Fld.isW z = true := (Fld.isW_iff z).2 ⟨by omega, by omega⟩
            have SS := Lib.hid (S.trans (show (true && Fld.isW z) = true by rw [e]; rfl))
            clear S hz ha e
            go_wp2_with fail
            go_round
            case rel => exact ⟨k + 1, by omega, by go_num, SS.out⟩
            case measure => simp [intOf]; omega
      · obtain rfl : k = n := by omega
        have ha' : Fld.allW zs = true := by rw [← HN.out, List.take_length] at ha; exact ha
        have HA := Lib.hid ha'
        clear ha ha'
        go_wp2_with fail
        go_ret
        exact ⟨by rw [HA.out]; rfl, rfl⟩

set_option maxHeartbeats 1000000 in
theorem rbits_any (a : Option Addr) (cap : Nat) (ns : List Nat) (hl : ns.length ≤ 600) (hb : ∀ j, j < ns.length → ns.getD j 0 ≤ 64) (w : World) (h : Reads .i64 w a (ns.map Int.ofNat)) :
    Calls Try.prog 44 #[.slice a ns.length cap] w fun e w' => e = .returned (.int .i64 (Fld.tot ns : Nat)) ∧ w = w' := by
  rcases h with h0 | ⟨b, off, rfl, hlt, hc⟩
  · obtain rfl : ns = [] := by simpa using h0
    show Calls _ _ #[.slice a 0 cap] _ _
    go_enter Try.func44, Try.ntmps44
    go_wp2_with fail
    refine wp_loop_rounds 1 ?_
    rw [rounds_succ]
    go_wp2_with fail
    go_ret
    exact ⟨rfl, rfl⟩
  · have tl := Fld.tot_le ns 64 hb
    have cell : ∀ j, j < ns.length → w.cell? ⟨b, off + j, none⟩ = some (.int .i64 (ns.getD j 0 : Nat)) := fun j hj => by
      have := hc j (by simpa using hj)
      rw [this]
      simp [List.getD, List.getElem?_eq_getElem hj]
    obtain ⟨n, hn⟩ : ∃ n, ns.length = n := ⟨_, rfl⟩
    have st := Fld.tot_take_succ ns
    rw [hn] at hl cell hb tl st ⊢
    have HC := Lib.hid cell
    have HN := Lib.hid hn
    have TL := Lib.hid tl
    have HB := Lib.hid hb
    have ST := Lib.hid st
    clear hc hn tl hb cell st
    go_enter Try.func44, Try.ntmps44
    go_wp2_with fail
    go_loop [3, 4] (fun t i => ∃ k : Nat, k ≤ n ∧ i = .int .i64 k ∧ t = .int .i64 (Fld.tot (ns.take k) : Nat)) (fun _ i => n - (intOf i).toNat)
    case atStart => exact ⟨0, Nat.zero_le _, rfl, rfl⟩
    case round =>
      obtain ⟨k, hk, rfl, rfl⟩ := hrel
      by_cases hlt2 : k < n
      · have hcell := HC.out k hlt2
        have S := ST.out k hlt2
        have t1 := TL.out k hk
        have t2 := HB.out k hlt2
        obtain ⟨z, hz⟩ : ∃ z, ns.getD k 0 = z := ⟨_, rfl⟩
        rw [hz] at hcell S t2
        obtain ⟨t, ht⟩ : ∃ t, Fld.tot (ns.take k) = t := ⟨_, rfl⟩
        rw [ht] at S t1 ⊢
        have SS := Lib.hid S
        have t3 : t ≤ 40000 := by omega
        clear S hz ht t1
        go_wp2_with fail
        go_round
        case rel => exact ⟨k + 1, by omega, by go_num, by rw [SS.out]; go_num⟩
        case measure => simp [intOf]; omega
      · obtain rfl : k = n := by omega
        have e : ns.take k = ns := by rw [← HN.out, List.take_length]
        rw [e]
        clear e
        go_wp2_with fail
        go_ret
        exact ⟨rfl, rfl⟩

set_option maxHeartbeats 1000000 in
theorem rpack_len (a1 a2 : Option Addr) (n1 cap1 n2 cap2 : Nat) (h : n2 ≠ n1) (h1 : n1 ≤ 600) (h2 : n2 ≤ 600) (w : World) :
    Calls Try.prog 20 #[.slice a1 n1 cap1, .slice a2 n2 cap2] w fun e w' => e = .returned (.tuple #[.string { data := #[] }, .int .i64 2]) ∧ w = w' := by
  have k1 : ((n1 : Int) == (n2 : Int)) = false := by simp; omega
  have k2 : ((n1 : Int) != (n2 : Int)) = true := by simp; omega
  go_enter Try.func20, Try.ntmps20
  go_wp2_with fail
  go_ret2
  exact ⟨rfl, rfl⟩

set_option maxHeartbeats 1000000 in
theorem rpack_bad (a1 a2 : Option Addr) (cap1 cap2 : Nat) (zs : List Int) (n : Nat) (hn : zs.length = n) (hl : n ≤ 600) (hw : Fld.allW zs = false) (w : World) (R1 : Reads .i64 w a1 zs) :
    Calls Try.prog 20 #[.slice a1 n cap1, .slice a2 n cap2] w fun e w' => e = .returned (.tuple #[.string { data := #[] }, .int .i64 2]) ∧ w = w' := by
  have A := Lib.hid (rall_any a1 cap1 zs (by omega) w R1)
  rw [hw, hn] at A
  clear hw hn R1
  go_enter Try.func20, Try.ntmps20
  go_wp2_with fail
  (with_reducible refine A.out.mono ?_)
  rintro e w' ⟨rfl, rfl⟩
  go_wp2_with fail
  go_ret2
  exact ⟨rfl, rfl⟩

set_option maxRecDepth 100000 in
set_option maxHeartbeats 4000000 in
theorem rpack_ok (b1 o1 cap1 b2 o2 cap2 : Nat) (zs : List Int) (vs : List Nat) (n : Nat) (hz : zs.length = n) (hv : vs.length = n) (n0 : 0 < n) (hl : n ≤ 500) (hvb : ∀ j, j < n → vs.getD j 0 < 18446744073709551616)
    (hw : Fld.allW zs = true) (w : World) (l1 : b1 < w.heap.size) (l2 : b2 < w.heap.size)
    (c1 : ∀ j, j < n → w.cell? ⟨b1, o1 + j, none⟩ = some (.int .i64 ((Fld.nats zs).getD j 0 : Nat))) (c2 : ∀ j, j < n → w.cell? ⟨b2, o2 + j, none⟩ = some (.int .u64 (vs.getD j 0 : Nat))) :
    Calls Try.prog 20 #[.slice (some ⟨b1, o1, none⟩) n cap1, .slice (some ⟨b2, o2, none⟩) n cap2] w fun e w' =>
      e = .returned (.tuple #[.string ⟨(Fld.packS (Fld.nats zs) vs).toArray⟩, .int .i64 (Fld.packK (Fld.nats zs) vs)]) ∧ Below w.heap.size w w' := by
  have nl : (Fld.nats zs).length = n := by rw [Fld.nats_length, hz]
  have nb : ∀ j, j < n → 1 ≤ (Fld.nats zs).getD j 0 ∧ (Fld.nats zs).getD j 0 ≤ 64 := fun j hj => (Fld.nats_get hw j (by omega)).2
  have R1 : Reads .i64 w (some ⟨b1, o1, none⟩) zs := .inr ⟨b1, o1, rfl, l1, fun j hj => by rw [c1 j (by omega), (Fld.nats_get hw j hj).1]⟩
  have A := Lib.hid (rall_any (some ⟨b1, o1, none⟩) cap1 zs (by omega) w R1)
  rw [hw, hz] at A
  obtain ⟨ns, hns⟩ : ∃ ns, Fld.nats zs = ns := ⟨_, rfl⟩
  have R2 : Reads .i64 w (some ⟨b1, o1, none⟩) (ns.map Int.ofNat) := by rw [← hns, Fld.nats_map hw]; exact R1
  rw [hns] at nl nb c1 ⊢
  have T := Lib.hid (rbits_any (some ⟨b1, o1, none⟩) cap1 ns (by omega) (fun j hj => (nb j (by omega)).2) w R2)
  have tb := Fld.tot_le ns 64 (fun j hj => (nb j (by omega)).2) ns.length (Nat.le_refl _)
  rw [List.take_length] at tb
  obtain ⟨t, ht⟩ : ∃ t, Fld.tot ns = t := ⟨_, rfl⟩
  rw [ht] at T tb
  rw [nl] at T
  have t1 : t ≤ 40000 := by omega
  have t2 : decide ((524288 : Int) < (t : Int)) = false := by simp; omega
  obtain ⟨m, hm⟩ : ∃ m, (t + 7) / 8 = m := ⟨_, rfl⟩
  have e9 : ((t : Int) + 7) / 8 = (m : Int) := by omega
  have m1 : m ≤ 50000 := by omega
  have FITS := Lib.hid (fun v k (a : v < 18446744073709551616) (b : k ≤ 64) (w : World) => rfits_any v k a b w)
  have FY := Lib.hid (Fld.fitAll_yes ns vs)
  have FN := Lib.hid (Fld.fitAll_no ns vs)
  have HC1 := Lib.hid c1
  have HC2 := Lib.hid c2
  have NL := Lib.hid nl
  have NB := Lib.hid nb
  have VB := Lib.hid hvb
  have TT := Lib.hid ht
  have HM := Lib.hid hm
  clear c1 c2 nl nb hvb ht hns hz hv hw R1 R2 tb hm
  go_enter Try.func20, Try.ntmps20
  go_wp2_with fail
  (with_reducible refine A.out.mono ?_)
  rintro e w' ⟨rfl, rfl⟩
  go_wp2_with fail
  (with_reducible refine T.out.mono ?_)
  rintro e w' ⟨rfl, rfl⟩
  obtain ⟨i0, hi, hz0, hz1, hz2⟩ := info_parts info_u8
  go_wp2_with (at_make; refine wpList_make_full _ rfl _ _ 59 rfl w.heap.size 5 i0 (.int .u8 0) 1 Try.underlying59 hi hz0 hz1 .i64 .i64 _ _ m rfl rfl e9 e9 (by rw [hz2]; omega) (by unfold maxLen; omega) (Nat.le_refl _) ?_; intro w2 hown hgrow; have hbb := back_bytes w2 w.heap.size m _ (holds_made hown (fun j hj => made_zero m j hj)); rw [show (Fld.zeros m).length = m by simp [Fld.zeros]] at hbb; have HB2 := Lib.hid (show Below w.heap.size w w2 from (Below.refl _ _).grown hgrow (Nat.le_refl _) (fun k e => by cases e)); clear hown hgrow hi hz0 hz1 hz2)
  have HZ := Lib.hid (show (⟨(Fld.zeros m).toArray⟩ : ByteArray) = ⟨(Fld.pk (Fld.zeros m) ns vs 0).toArray⟩ from rfl)
  go_loopw [7, 8, 9] (fun s p i wr => ∃ k : Nat, k ≤ n ∧ i = .int .i64 k ∧ p = .int .i64 (Fld.tot (ns.take k) : Nat) ∧ s = .string ⟨(Fld.pk (Fld.zeros m) ns vs k).toArray⟩ ∧ Below w.heap.size w wr ∧ ∀ i, i < k → Fld.fitsB (vs.getD i 0) (ns.getD i 0) = true) (fun _ _ i _ => n - (intOf i).toNat)
  case atStart => exact ⟨0, Nat.zero_le _, rfl, rfl, rfl, HB2.out, fun i hi => by omega⟩
  case round =>
    obtain ⟨k, hk, rfl, rfl, rfl, hB, ha⟩ := hrel
    have HA := Lib.hid ha
    clear ha
    by_cases hlt : k < n
    · have q1 := (hB.cell (p := ⟨b1, o1 + k, none⟩) l1).trans (HC1.out k hlt)
      have q2 := (hB.cell (p := ⟨b2, o2 + k, none⟩) l2).trans (HC2.out k hlt)
      have F := Lib.hid (FITS.out (vs.getD k 0) (ns.getD k 0) (VB.out k hlt) (NB.out k hlt).2)
      have pl := Fld.pk_length (Fld.zeros m) ns vs k
      rw [show (Fld.zeros m).length = m by simp [Fld.zeros]] at pl
      have ts := Fld.tot_take_succ ns k (by rw [NL.out]; exact hlt)
      have tm := Fld.tot_mono ns (k + 1)
      rw [TT.out] at tm
      have mm := HM.out
      have nb := NB.out k hlt
      have vb := VB.out k hlt
      have st : Fld.pk (Fld.zeros m) ns vs (k + 1) = Fld.put (Fld.pk (Fld.zeros m) ns vs k) (Fld.tot (ns.take k)) (ns.getD k 0) (vs.getD k 0) (ns.getD k 0) := rfl
      have k0 : (0 : Int) ≤ (k : Int) := by omega
      have k1 : (k : Int) < (n : Int) := by omega
      obtain ⟨x, hx⟩ : ∃ x, ns.getD k 0 = x := ⟨_, rfl⟩
      obtain ⟨y, hy⟩ : ∃ y, vs.getD k 0 = y := ⟨_, rfl⟩
      obtain ⟨p, hp⟩ : ∃ p, Fld.tot (ns.take k) = p := ⟨_, rfl⟩
      obtain ⟨p', hp'⟩ : ∃ p, Fld.tot (ns.take (k + 1)) = p := ⟨_, rfl⟩
      obtain ⟨l, hl'⟩ : ∃ l, Fld.pk (Fld.zeros m) ns vs k = l := ⟨_, rfl⟩
      obtain ⟨s, hs⟩ : ∃ s : ByteArray, (⟨l.toArray⟩ : ByteArray) = s := ⟨_, rfl⟩
      have sl : s.data.toList = l := by rw [← hs]
      have ss : s.size = m := by
        have h : s.size = s.data.toList.length := by simp
        rw [h, sl, ← hl', pl]
      rw [hx] at q1 ts nb st F
      rw [hy] at q2 vb st F
      rw [hp] at ts st ⊢
      rw [hp'] at ts tm
      rw [hl'] at st ⊢
      rw [hs]
      by_cases f : Fld.fitsB y x = true
      · rw [f] at F
        have SET := Lib.hid (fun w => rset_any s p x y (by omega) (by omega) nb.2 vb w)
        rw [sl, ← st] at SET
        have STP := Lib.hid (show ∀ i, i < k + 1 → Fld.fitsB (vs.getD i 0) (ns.getD i 0) = true from fun i hi => by
          by_cases e : i = k
          · subst e; rw [hx, hy]; exact f
          · exact HA.out i (by omega))
        have TS := Lib.hid ts
        have HP := Lib.hid hp'
        have HB := Lib.hid hB
        have HX := Lib.hid hx
        have p1 : p ≤ 50000 := by omega
        have x1 : x ≤ 64 := nb.2
        clear f hx hy hp hp' hl' hs sl ss st ts tm mm pl hB
        go_wp2_with fail
        go_quiet ((go_at_call 37; exact quiet_left (F.out _)))
        have q3 : (wr.drewN nq).cell? ⟨b1, o1 + k, none⟩ = some (.int .i64 (x : Int)) := q1
        have q4 : (wr.drewN nq).cell? ⟨b2, o2 + k, none⟩ = some (.int .u64 (y : Int)) := q2
        have HB3 := Lib.hid (show Below w.heap.size w (wr.drewN nq) from below_drewN2 HB.out _)
        clear q1 q2
        generalize wr.drewN nq = w3 at *
        go_wp2_with fail
        go_still_tail 10, (by kernel_rfl)
        go_wp2_with fail
        (with_reducible refine (SET.out _).mono ?_)
        rintro e w5 ⟨rfl, h5⟩
        have B5 := Lib.hid (show Below w.heap.size w w5 from bt2 HB3.out.drew h5)
        have q5 := (B5.out.cell (p := ⟨b1, o1 + k, none⟩) l1).trans (HC1.out k hlt)
        rw [HX.out] at q5
        clear h5
        go_wp2_with fail
        go_roundw
        case rel => exact ⟨k + 1, by omega, by go_num, by rw [HP.out, TS.out]; go_num, rfl, B5.out, STP.out⟩
        case measure => simp [intOf]; omega
      · have f0 : Fld.fitsB y x = false := by simpa using f
        rw [f0] at F
        have FF := Lib.hid (FN.out k (by rw [NL.out]; exact hlt) (by rw [hx, hy]; exact f0))
        have HB := Lib.hid hB
        clear f f0 hx hy hp hp' hl' hs sl ss st ts tm mm pl hB
        go_wp2_with fail
        go_quiet ((go_at_call 37; exact quiet_left (F.out _)))
        go_wp2_with fail
        go_ret2
        exact ⟨by rw [(Fld.packS_no FF.out).1, (Fld.packS_no FF.out).2]; rfl, below_drewN2 HB.out _⟩
    · obtain rfl : n = k := by omega
      have FF := Lib.hid (FY.out (fun i hi => HA.out i (by rw [← NL.out]; exact hi)))
      have e1 : Fld.pk (Fld.zeros m) ns vs n = Fld.packB ns vs := by unfold Fld.packB; rw [TT.out, HM.out, NL.out]
      rw [e1]
      have HB := Lib.hid hB
      clear hB e1
      go_wp2_with fail
      go_ret2
      exact ⟨by rw [(Fld.packS_yes FF.out).1, (Fld.packS_yes FF.out).2]; rfl, HB.out⟩
end Go.Proofs.Ytgfjmolihobaeaa
