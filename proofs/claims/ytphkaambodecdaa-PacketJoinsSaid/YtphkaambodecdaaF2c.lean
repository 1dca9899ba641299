/- FldPack, FldPack2 of layer 2 as one text, under names of their own. -/
import Derived.Test.YtphkaambodecdaaF2b
/- The contract of package fields' Pack over this program. -/
namespace Go.Proofs.Ytphkaambodecdaa
open Go.RowKit Go.Shelf
set_option linter.unusedVariables false

namespace Fld
/-- Bytes with the first k fields put one after the other. -/
def pk (l : List UInt8) (ns vs : List Nat) : Nat → List UInt8
  | 0 => l
  | k + 1 => put (pk l ns vs k) (tot (ns.take k)) (ns.getD k 0) (vs.getD k 0) (ns.getD k 0)
theorem pk_length (l : List UInt8) (ns vs : List Nat) : ∀ k, (pk l ns vs k).length = l.length
  | 0 => rfl
  | k + 1 => by unfold pk; rw [put_length, pk_length l ns vs k]
def fitAll (ns vs : List Nat) : Bool := (List.range ns.length).all fun i => fitsB (vs.getD i 0) (ns.getD i 0)
theorem fitAll_no (ns vs : List Nat) (k : Nat) (h : k < ns.length) (e : fitsB (vs.getD k 0) (ns.getD k 0) = false) : fitAll ns vs = false := by
  unfold fitAll
  rw [List.all_eq_false]
  exact ⟨k, by simpa using h, by rw [e]; decide⟩
theorem fitAll_yes (ns vs : List Nat) (h : ∀ i, i < ns.length → fitsB (vs.getD i 0) (ns.getD i 0) = true) : fitAll ns vs = true := by
  unfold fitAll
  rw [List.all_eq_true]
  intro i hi
  exact h i (by simpa using hi)
def nats (zs : List Int) : List Nat := zs.map Int.toNat
def packE (zs : List Int) (vs : List Nat) : Int := if vs.length = zs.length ∧ allW zs = true then (if fitAll (nats zs) vs = true then 0 else 7) else 2
def zeros (n : Nat) : List UInt8 := List.replicate n 0
def packB (ns vs : List Nat) : List UInt8 := pk (zeros ((tot ns + 7) / 8)) ns vs ns.length
def packS (ns vs : List Nat) : List UInt8 := if fitAll ns vs = true then packB ns vs else []
def packK (ns vs : List Nat) : Int := if fitAll ns vs = true then 0 else 7
theorem packS_no {ns vs : List Nat} (h : fitAll ns vs = false) : packS ns vs = [] ∧ packK ns vs = 7 := by unfold packS packK; rw [h]; exact ⟨rfl, rfl⟩
theorem packS_yes {ns vs : List Nat} (h : fitAll ns vs = true) : packS ns vs = packB ns vs ∧ packK ns vs = 0 := by unfold packS packK; rw [h]; exact ⟨rfl, rfl⟩
def packV (zs : List Int) (vs : List Nat) : List UInt8 := if packE zs vs = 0 then packB (nats zs) vs else []
theorem nats_length (zs : List Int) : (nats zs).length = zs.length := by simp [nats]
theorem allW_mem {zs : List Int} (h : allW zs = true) (j : Nat) (hj : j < zs.length) : 1 ≤ zs.getD j 0 ∧ zs.getD j 0 ≤ 64 := by
  unfold allW at h
  rw [List.all_eq_true] at h
  have := h (zs.getD j 0) (by simp [List.getD, List.getElem?_eq_getElem hj])
  exact (isW_iff _).1 this
theorem nats_get {zs : List Int} (h : allW zs = true) (j : Nat) (hj : j < zs.length) : ((nats zs).getD j 0 : Int) = zs.getD j 0 ∧ 1 ≤ (nats zs).getD j 0 ∧ (nats zs).getD j 0 ≤ 64 := by
  have := allW_mem h j hj
  have e : (nats zs).getD j 0 = (zs.getD j 0).toNat := by simp [nats, List.getD, List.getElem?_eq_getElem hj]
  rw [e]
  omega
theorem nats_map {zs : List Int} (h : allW zs = true) : (nats zs).map Int.ofNat = zs := by
  apply List.ext_getElem
  · simp [nats]
  · intro i h1 h2
    have := allW_mem h i h2
    simp [List.getD, List.getElem?_eq_getElem h2] at this
    simp [nats]
    omega
theorem tot_mono (ns : List Nat) (k : Nat) : tot (ns.take k) ≤ tot ns := by
  have : tot (ns.take k) + tot (ns.drop k) = tot ns := by unfold tot; rw [← List.sum_append, List.take_append_drop]
  omega
theorem fill_bytes (ns : List Nat) : tot (fill ns) / 8 = (tot ns + 7) / 8 := by
  have := fill_tot ns
  omega
end Fld
theorem f2_info_u8 : (Try.prog.info? 5).map (fun i => (i.zero, i.size, i.bytes)) = some (some (.int .u8 0), 1, 1) := by kernel_rfl

theorem FReads.cell {k : IntKind} {w : World} {a : Option Addr} {zs : List Int} (h : FReads k w a zs) (hz : 0 < zs.length) : ∃ b off, a = some ⟨b, off, none⟩ ∧ b < w.heap.size ∧ ∀ j, j < zs.length → w.cell? ⟨b, off + j, none⟩ = some (.int k (zs.getD j 0)) := by
  rcases h with rfl | h
  · simp at hz
  · exact h

theorem holds_made {w : World} {base b n cap : Nat} {zs : List Value} (h : w.ownsRow base 5 1 (.slice (some ⟨b, 0, none⟩) n cap) n zs) (hz : ∀ j, j < n → zs[j]? = some (.int .u8 0)) : Holds w b (Fld.zeros n) := by
  obtain ⟨hl, h⟩ := h
  rcases h with ⟨hv, _⟩ | ⟨g, c, cur, hv, hb, hg, hnc, hm, hsz, ht⟩
  · simp at hv
  · simp only [Value.slice.injEq, Option.some.injEq, Addr.mk.injEq] at hv
    obtain ⟨⟨rfl, _, _⟩, _, rfl⟩ := hv
    intro j hj
    have hj' : j < n := by simpa [Fld.zeros] using hj
    have e1 : w.cell? ⟨b, j, none⟩ = cur[j]? := by
      unfold World.cell?
      rw [hg]
      simp
    have e2 : (cur.toList.take (n * 1))[j]? = cur[j]? := by
      rw [List.getElem?_take_of_lt (by omega)]
      simp
    refine ⟨?_, ?_⟩
    · rw [e1, ← e2, ht, hz j hj']
      simp [Fld.zeros, List.getD, hj']
    · unfold World.frozen?
      rw [hg]
      simp
theorem made_zero (n j : Nat) (h : j < n) : (madeCells (Value.int IntKind.u8 0).cells (n * 1)).toList[j]? = some (.int .u8 0) := by
  unfold madeCells
  simp [Value.cells, h, Nat.mod_one]

set_option maxRecDepth 100000 in
set_option maxHeartbeats 4000000 in
theorem pack_ok (b1 o1 cap1 b2 o2 cap2 : Nat) (zs : List Int) (vs : List Nat) (n : Nat) (hz : zs.length = n) (hv : vs.length = n) (n0 : 0 < n) (hl : n ≤ 500) (hc1 : n ≤ cap1) (hm1 : cap1 ≤ 9223372036854775807) (hvb : ∀ j, j < n → vs.getD j 0 < 18446744073709551616)
    (hw : Fld.allW zs = true) (w : World) (l1 : b1 < w.heap.size) (l2 : b2 < w.heap.size)
    (c1 : ∀ j, j < n → w.cell? ⟨b1, o1 + j, none⟩ = some (.int .i64 ((Fld.nats zs).getD j 0 : Nat))) (c2 : ∀ j, j < n → w.cell? ⟨b2, o2 + j, none⟩ = some (.int .u64 (vs.getD j 0 : Nat))) :
    Calls Try.prog 59 #[.slice (some ⟨b1, o1, none⟩) n cap1, .slice (some ⟨b2, o2, none⟩) n cap2] w fun e w' =>
      e = .returned (.tuple #[.string ⟨(Fld.packS (Fld.nats zs) vs).toArray⟩, .int .i64 (Fld.packK (Fld.nats zs) vs)]) ∧ Below w.heap.size w w' := by
  have nl : (Fld.nats zs).length = n := by rw [Fld.nats_length, hz]
  have nb : ∀ j, j < n → 1 ≤ (Fld.nats zs).getD j 0 ∧ (Fld.nats zs).getD j 0 ≤ 64 := fun j hj => (Fld.nats_get hw j (by omega)).2
  have R1 : FReads .i64 w (some ⟨b1, o1, none⟩) zs := .inr ⟨b1, o1, rfl, l1, fun j hj => by rw [c1 j (by omega), (Fld.nats_get hw j hj).1]⟩
  have A := Lib.hid (areWidths_any (some ⟨b1, o1, none⟩) cap1 zs (by omega) w R1)
  rw [hw, hz] at A
  obtain ⟨ns, hns⟩ : ∃ ns, Fld.nats zs = ns := ⟨_, rfl⟩
  have R2 : FReads .i64 w (some ⟨b1, o1, none⟩) (ns.map Int.ofNat) := by rw [← hns, Fld.nats_map hw]; exact R1
  rw [hns] at nl nb c1 ⊢
  have T := Lib.hid (total_any (some ⟨b1, o1, none⟩) cap1 ns (by omega) (fun j hj => (nb j (by omega)).2) w R2)
  have FI := Lib.hid (filled_any (some ⟨b1, o1, none⟩) cap1 ns (by omega) (by omega) hm1 (fun j hj => (nb j (by omega)).2) w R2)
  have tb := Fld.tot_le ns 64 (fun j hj => (nb j (by omega)).2) ns.length (Nat.le_refl _)
  rw [List.take_length] at tb
  obtain ⟨t, ht⟩ : ∃ t, Fld.tot ns = t := ⟨_, rfl⟩
  rw [ht] at T tb
  rw [nl] at T FI
  have t1 : t ≤ 40000 := by omega
  have fillL := Fld.fill_le ns (fun j hj => (nb j (by omega)).2)
  have fillN := Fld.fill_length ns
  have FITS := Lib.hid (fun v k (a : v < 18446744073709551616) (b : k ≤ 64) (w : World) => fits_any v k a b w)
  have FY := Lib.hid (Fld.fitAll_yes ns vs)
  have FN := Lib.hid (Fld.fitAll_no ns vs)
  have HC1 := Lib.hid c1
  have HC2 := Lib.hid c2
  have NL := Lib.hid nl
  have NB := Lib.hid nb
  have VB := Lib.hid hvb
  have TT := Lib.hid ht
  have FL := Lib.hid fillL
  have FLN := Lib.hid fillN
  clear c1 c2 nl nb hvb ht hns hz hv hw R1 R2 tb fillL fillN
  go_enter Try.func59, Try.ntmps59
  go_wp2_with fail
  refine A.out.mono ?_
  rintro e w' ⟨rfl, rfl⟩
  go_wp2_with fail
  refine T.out.mono ?_
  rintro e w' ⟨rfl, rfl⟩
  go_wp2_with fail
  go_loop [27] (fun i => ∃ k : Nat, k ≤ n ∧ i = .int .i64 k ∧ ∀ i, i < k → Fld.fitsB (vs.getD i 0) (ns.getD i 0) = true) (fun i => n - (intOf i).toNat)
  case atStart => exact ⟨0, Nat.zero_le _, rfl, fun i hi => by omega⟩
  case round =>
    obtain ⟨k, hk, rfl, ha⟩ := hrel
    have HA := Lib.hid ha
    clear ha
    by_cases hlt : k < n
    · have q1 := HC1.out k hlt
      have q2 := HC2.out k hlt
      have F := Lib.hid (FITS.out (vs.getD k 0) (ns.getD k 0) (VB.out k hlt) (NB.out k hlt).2)
      obtain ⟨x, hx⟩ : ∃ x, ns.getD k 0 = x := ⟨_, rfl⟩
      obtain ⟨y, hy⟩ : ∃ y, vs.getD k 0 = y := ⟨_, rfl⟩
      rw [hx] at q1 F
      rw [hy] at q2 F
      by_cases f : Fld.fitsB y x = true
      · rw [f] at F
        have ST := Lib.hid (show ∀ i, i < k + 1 → Fld.fitsB (vs.getD i 0) (ns.getD i 0) = true from fun i hi => by
          by_cases e : i = k
          · subst e; rw [hx, hy]; exact f
          · exact HA.out i (by omega))
        clear f hx hy
        go_wp2_with fail
        refine (F.out _).mono ?_
        rintro e w' ⟨rfl, rfl⟩
        go_wp2_with fail
        go_round
        case rel => exact ⟨k + 1, by omega, by go_num, ST.out⟩
        case measure => simp [intOf]; omega
      · have f0 : Fld.fitsB y x = false := by simpa using f
        rw [f0] at F
        have FF := Lib.hid (FN.out k (by rw [NL.out]; exact hlt) (by rw [hx, hy]; exact f0))
        have B := Lib.hid (Below.refl w.heap.size w)
        clear f f0 hx hy
        go_wp2_with fail
        refine (F.out _).mono ?_
        rintro e w' ⟨rfl, rfl⟩
        go_wp2_with fail
        go_ret2
        exact ⟨by rw [(Fld.packS_no FF.out).1, (Fld.packS_no FF.out).2]; rfl, B.out⟩
    · obtain rfl : n = k := by omega
      have FF := Lib.hid (FY.out (fun i hi => HA.out i (by rw [← NL.out]; exact hi)))
      go_wp2_with fail
      refine FI.out.mono ?_
      rintro e w1 ⟨a', cap', rfl, hfc, hfr, hfb⟩
      have T2 := Lib.hid (total_any a' cap' (Fld.fill ns) (by have := FLN.out; have := NL.out; omega) FL.out w1 hfr)
      obtain ⟨t2, ht2⟩ : ∃ t, Fld.tot (Fld.fill ns) = t := ⟨_, rfl⟩
      have e8 : t2 / 8 = (t + 7) / 8 := by have := Fld.fill_bytes ns; rw [TT.out, ht2] at this; exact this
      have t3 : t2 ≤ 50000 := by have := (Fld.fill_tot ns).2.2; rw [TT.out, ht2] at this; omega
      rw [ht2] at T2
      have HFB := Lib.hid hfb
      obtain ⟨m, hm⟩ : ∃ m, (t + 7) / 8 = m := ⟨_, rfl⟩
      have e9 : (t2 : Int) / 8 = (m : Int) := by omega
      have m1 : m ≤ 50000 := by omega
      have HM := Lib.hid hm
      clear hfb hfr ht2 hm e8 hfc
      go_wp2_with fail
      refine T2.out.mono ?_
      rintro e w' ⟨rfl, rfl⟩
      obtain ⟨i0, hi, hz0, hz1, hz2⟩ := info_parts f2_info_u8
      go_wp2_with (at_make; refine wpList_make_full _ rfl _ _ 73 rfl w1.heap.size 5 i0 (.int .u8 0) 1 Try.underlying73 hi hz0 hz1 .i64 .i64 _ _ m rfl rfl rfl rfl (by rw [hz2]; omega) (by unfold maxLen; omega) (Nat.le_refl _) ?_; intro w2 hown hgrow)
      obtain ⟨hBl, hBf⟩ : Below w1.heap.size w1 w2 ∧ w1.heap.size < w2.heap.size := ⟨(Below.refl _ _).grown hgrow (Nat.le_refl _) (fun k e => by cases e), by
        rcases hown.2 with ⟨h, _⟩ | ⟨g, c, cur, hv, hb, hg, _⟩
        · simp at h
        · simp only [Value.slice.injEq, Option.some.injEq, Addr.mk.injEq] at hv
          obtain ⟨⟨e, _, _⟩, _, _⟩ := hv
          rw [e]
          exact (Array.getElem?_eq_some_iff.1 hg).1⟩
      have HM2 := Lib.hid (holds_made hown (fun j hj => made_zero m j hj))
      obtain ⟨B, hB⟩ : ∃ B, w1.heap.size = B := ⟨_, rfl⟩
      rw [hB] at HM2 hBf ⊢
      have hwB : w.heap.size ≤ B := by rw [← hB]; exact HFB.out.size
      have HB2 := Lib.hid (show Below w.heap.size w w2 from HFB.out.trans (hBl.mono HFB.out.size))
      clear hBl hown hgrow hB hi hz0 hz1 hz2
      go_loopw [9, 47] (fun p i wr => ∃ k : Nat, k ≤ n ∧ i = .int .i64 k ∧ p = .int .i64 (Fld.tot (ns.take k) : Nat) ∧ Holds wr B (Fld.pk (Fld.zeros m) ns vs k) ∧ Below w.heap.size w wr ∧ B < wr.heap.size) (fun _ i _ => n - (intOf i).toNat)
      case atStart => exact ⟨0, Nat.zero_le _, rfl, rfl, HM2.out, HB2.out, hBf⟩
      case round =>
        obtain ⟨k, hk, rfl, rfl, hh, hB, hBs⟩ := hrel
        by_cases hlt : k < n
        · have q1 := (hB.cell (p := ⟨b1, o1 + k, none⟩) l1).trans (HC1.out k hlt)
          have q2 := (hB.cell (p := ⟨b2, o2 + k, none⟩) l2).trans (HC2.out k hlt)
          have pl := Fld.pk_length (Fld.zeros m) ns vs k
          rw [show (Fld.zeros m).length = m by simp [Fld.zeros]] at pl
          have ts := Fld.tot_take_succ ns k (by rw [NL.out]; exact hlt)
          have tm := Fld.tot_mono ns (k + 1)
          have nb := NB.out k hlt
          have vb := VB.out k hlt
          have mm := HM.out
          have st : Fld.pk (Fld.zeros m) ns vs (k + 1) = Fld.put (Fld.pk (Fld.zeros m) ns vs k) (Fld.tot (ns.take k)) (ns.getD k 0) (vs.getD k 0) (ns.getD k 0) := rfl
          rw [TT.out] at tm
          obtain ⟨x, hx⟩ : ∃ x, ns.getD k 0 = x := ⟨_, rfl⟩
          obtain ⟨y, hy⟩ : ∃ y, vs.getD k 0 = y := ⟨_, rfl⟩
          obtain ⟨p, hp⟩ : ∃ p, Fld.tot (ns.take k) = p := ⟨_, rfl⟩
          obtain ⟨p', hp'⟩ : ∃ p, Fld.tot (ns.take (k + 1)) = p := ⟨_, rfl⟩
          obtain ⟨l, hl'⟩ : ∃ l, Fld.pk (Fld.zeros m) ns vs k = l := ⟨_, rfl⟩
          rw [hx] at q1 ts nb st
          rw [hy] at q2 vb st
          rw [hp] at ts st ⊢
          rw [hp'] at ts tm
          rw [hl'] at hh pl st
          have WR := Lib.hid (write_any B m p x y w.heap.size l (by omega) (by omega) nb.2 vb wr hBs hwB hh)
          rw [pl] at WR
          have ST := Lib.hid st
          have TS := Lib.hid ts
          have HP := Lib.hid hp'
          have HB := Lib.hid hB
          have p1 : p ≤ 50000 := by omega
          have x1 : x ≤ 64 := nb.2
          clear hh hB st ts hx hy hp hp' hl' pl tm mm
          go_wp2_with fail
          (with_reducible refine WR.out.mono ?_)
          rintro e w4 ⟨⟨v0, rfl⟩, hh4, hB4⟩
          have q3 := (hB4.cell (p := ⟨b1, o1 + k, none⟩) l1).trans q1
          have HH4 := Lib.hid hh4
          have HB4 := Lib.hid (HB.out.trans hB4)
          have HS4 := Lib.hid (show B < w4.heap.size from Nat.lt_of_lt_of_le hBs hB4.size)
          clear hh4 hB4
          go_wp2_with fail
          go_roundw
          case rel => exact ⟨k + 1, by omega, by go_num, by rw [HP.out, TS.out]; go_num, by rw [ST.out]; exact HH4.out, HB4.out, HS4.out⟩
          case measure => simp [intOf]; omega
        · obtain rfl : n = k := by omega
          have bb := back_bytes wr B m _ hh
          rw [Fld.pk_length, show (Fld.zeros m).length = m by simp [Fld.zeros]] at bb
          have e1 : Fld.pk (Fld.zeros m) ns vs n = Fld.packB ns vs := by unfold Fld.packB; rw [TT.out, HM.out, NL.out]
          rw [e1] at bb
          have HB := Lib.hid hB
          clear hh hB e1
          go_wp2_with fail
          go_ret2
          exact ⟨by rw [(Fld.packS_yes FF.out).1, (Fld.packS_yes FF.out).2]; rfl, HB.out⟩
end Go.Proofs.Ytphkaambodecdaa
/- The contract of package fields' Pack over this program, for all widths and values. -/
namespace Go.Proofs.Ytphkaambodecdaa
open Go.RowKit Go.Shelf
set_option linter.unusedVariables false

set_option maxHeartbeats 1000000 in
theorem pack_len (a1 a2 : Option Addr) (n1 cap1 n2 cap2 : Nat) (h : n2 ≠ n1) (h1 : n1 ≤ 600) (h2 : n2 ≤ 600) (w : World) :
    Calls Try.prog 59 #[.slice a1 n1 cap1, .slice a2 n2 cap2] w fun e w' => e = .returned (.tuple #[.string { data := #[] }, .int .i64 2]) ∧ w = w' := by
  have k1 : ((n2 : Int) == (n1 : Int)) = false := by simp; omega
  have k2 : ((n2 : Int) != (n1 : Int)) = true := by simp; omega
  go_enter Try.func59, Try.ntmps59
  go_wp2_with fail
  go_ret2
  exact ⟨rfl, rfl⟩

set_option maxHeartbeats 1000000 in
theorem pack_bad (a1 a2 : Option Addr) (cap1 cap2 : Nat) (zs : List Int) (n : Nat) (hn : zs.length = n) (hl : n ≤ 600) (hw : Fld.allW zs = false) (w : World) (R1 : FReads .i64 w a1 zs) :
    Calls Try.prog 59 #[.slice a1 n cap1, .slice a2 n cap2] w fun e w' => e = .returned (.tuple #[.string { data := #[] }, .int .i64 2]) ∧ w = w' := by
  have A := Lib.hid (areWidths_any a1 cap1 zs (by omega) w R1)
  rw [hw, hn] at A
  clear hw hn R1
  go_enter Try.func59, Try.ntmps59
  go_wp2_with fail
  (with_reducible refine A.out.mono ?_)
  rintro e w' ⟨rfl, rfl⟩
  go_wp2_with fail
  go_ret2
  exact ⟨rfl, rfl⟩

set_option maxHeartbeats 1000000 in
theorem pack_empty (a1 a2 : Option Addr) (cap1 cap2 : Nat) (hm1 : cap1 ≤ 9223372036854775807) (w : World) :
    Calls Try.prog 59 #[.slice a1 0 cap1, .slice a2 0 cap2] w fun e w' => e = .returned (.tuple #[.string { data := #[] }, .int .i64 0]) ∧ Below w.heap.size w w' := by
  have A : Hid (Calls Try.prog 67 #[.slice a1 0 cap1] w fun e w' => e = .returned (.bool true) ∧ w = w') := Lib.hid (areWidths_any a1 cap1 [] (by simp) w (.inl rfl))
  have T : Hid (∀ a c w, Calls Try.prog 68 #[.slice a 0 c] w fun e w' => e = .returned (.int .i64 0) ∧ w = w') := Lib.hid (fun a c w => total_any a c [] (by simp) (by simp) w (.inl rfl))
  have FI : Hid (Calls Try.prog 70 #[.slice a1 0 cap1] w (Filled [] w)) := Lib.hid (filled_any a1 cap1 [] (by simp) (by simp) hm1 (by simp) w (.inl rfl))
  go_enter Try.func59, Try.ntmps59
  go_wp2_with fail
  (with_reducible refine A.out.mono ?_)
  rintro e w' ⟨rfl, rfl⟩
  go_wp2_with fail
  (with_reducible refine (T.out _ _ _).mono ?_)
  rintro e w' ⟨rfl, rfl⟩
  go_wp2_with fail
  refine wp_loop_rounds 1 ?_
  rw [rounds_succ]
  go_wp2_with fail
  (with_reducible refine FI.out.mono ?_)
  rintro e w1 ⟨a', cap', rfl, hfc, hfr, hfb⟩
  have e0 : (Fld.fill []).length = 0 := rfl
  rw [e0]
  have HFB := Lib.hid hfb
  clear hfb hfr hfc e0
  go_wp2_with fail
  (with_reducible refine (T.out _ _ _).mono ?_)
  rintro e w' ⟨rfl, rfl⟩
  obtain ⟨i0, hi, hz0, hz1, hz2⟩ := info_parts f2_info_u8
  go_wp2_with (at_make; refine wpList_make_full _ rfl _ _ 73 rfl w1.heap.size 5 i0 (.int .u8 0) 1 Try.underlying73 hi hz0 hz1 .i64 .i64 _ _ 0 rfl rfl rfl rfl (by rw [hz2]; omega) (by unfold maxLen; omega) (Nat.le_refl _) ?_; intro w2 hown hgrow)
  have HB2 := Lib.hid (show Below w.heap.size w w2 from HFB.out.trans (((Below.refl _ _).grown hgrow (Nat.le_refl _) (fun k e => by cases e)).mono HFB.out.size))
  have bb : (convert 73 9 (.slice (some ⟨w1.heap.size, 0, none⟩) 0 0)).run Try.prog w2 = .ok (.string { data := #[] }) w2 := back_bytes w2 w1.heap.size 0 [] (fun j h => by simp at h)
  clear hown hgrow hi hz0 hz1 hz2
  refine wp_loop_rounds 1 ?_
  rw [rounds_succ]
  go_wp2_with fail
  go_ret2
  exact ⟨rfl, HB2.out⟩

theorem pack_any (a1 a2 : Option Addr) (cap1 cap2 : Nat) (zs : List Int) (vs : List Nat) (hz : zs.length ≤ 500) (hv : vs.length ≤ 500) (hc1 : zs.length ≤ cap1) (hm1 : cap1 ≤ 9223372036854775807) (vb : ∀ j, j < vs.length → vs.getD j 0 < 18446744073709551616)
    (w : World) (R1 : FReads .i64 w a1 zs) (R2 : FReads .u64 w a2 (vs.map Int.ofNat)) :
    Calls Try.prog 59 #[.slice a1 zs.length cap1, .slice a2 vs.length cap2] w fun e w' => e = .returned (.tuple #[.string ⟨(Fld.packV zs vs).toArray⟩, .int .i64 (Fld.packE zs vs)]) ∧ Below w.heap.size w w' := by
  by_cases hlen : vs.length = zs.length
  · by_cases hw : Fld.allW zs = true
    · by_cases h0 : zs.length = 0
      · have e1 : zs = [] := List.eq_nil_of_length_eq_zero h0
        have e2 : vs = [] := List.eq_nil_of_length_eq_zero (by omega)
        subst e1
        subst e2
        exact pack_empty a1 a2 cap1 cap2 hm1 w
      · obtain ⟨b1, o1, rfl, l1, c1⟩ := R1.cell (by omega)
        obtain ⟨b2, o2, rfl, l2, c2⟩ := R2.cell (by simp; omega)
        have P := pack_ok b1 o1 cap1 b2 o2 cap2 zs vs zs.length rfl hlen (by omega) hz hc1 hm1 (fun j hj => vb j (by omega)) hw w l1 l2 (fun j hj => by rw [c1 j hj, (Fld.nats_get hw j hj).1])
          (fun j hj => by rw [c2 j (by simp; omega), getD_ofNat _ _ (by omega)])
        rw [hlen]
        have e1 : Fld.packE zs vs = Fld.packK (Fld.nats zs) vs := by unfold Fld.packE Fld.packK; rw [if_pos ⟨hlen, hw⟩]
        have e2 : Fld.packV zs vs = Fld.packS (Fld.nats zs) vs := by
          unfold Fld.packV
          rw [e1]
          unfold Fld.packK Fld.packS
          split <;> simp
        rw [e1, e2]
        exact P
    · have hw0 : Fld.allW zs = false := by simpa using hw
      have e1 : Fld.packE zs vs = 2 := by unfold Fld.packE; rw [if_neg (by intro h; exact hw h.2)]
      have e2 : Fld.packV zs vs = [] := by unfold Fld.packV; rw [e1, if_neg (by omega)]
      rw [e1, e2, hlen, empty_str]
      exact (pack_bad a1 a2 cap1 cap2 zs zs.length rfl (by omega) hw0 w R1).mono fun e w' ⟨he, hw⟩ => ⟨he, by rw [← hw]; exact Below.refl _ _⟩
  · have e1 : Fld.packE zs vs = 2 := by unfold Fld.packE; rw [if_neg (by intro h; exact hlen h.1)]
    have e2 : Fld.packV zs vs = [] := by unfold Fld.packV; rw [e1, if_neg (by omega)]
    rw [e1, e2, empty_str]
    exact (pack_len a1 a2 zs.length cap1 vs.length cap2 hlen (by omega) (by omega) w).mono fun e w' ⟨he, hw⟩ => ⟨he, by rw [← hw]; exact Below.refl _ _⟩
end Go.Proofs.Ytphkaambodecdaa
