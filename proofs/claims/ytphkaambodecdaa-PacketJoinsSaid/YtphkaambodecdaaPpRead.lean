/- Layer 9, the landed program: read, which puts the numbers of a header into their places. -/
import Derived.Test.YtphkaambodecdaaPpBase
import Derived.Test.YtphkaambodecdaaPkTake
namespace Go.Proofs.Ytphkaambodecdaa
open Go.RowKit Go.Shelf
set_option linter.unusedVariables false
set_option maxRecDepth 100000

/-- Unpack of six bytes. -/
theorem unpack_hdr (B : Nat) (s : ByteArray) (hs : s.size = 6) (w : World) (R : FReads .i64 w (some ⟨B, 0, none⟩) Pk.wid) : Calls Try.prog 61 #[.slice (some ⟨B, 0, none⟩) 7 7, .string s] w fun e w' =>
    ∃ N off cap, e = .returned (.tuple #[.slice (some ⟨N, off, none⟩) 7 cap, .int .i64 0]) ∧ (w.heap.size ≤ N ∧ N < w'.heap.size) ∧ (∀ j, j < 7 → w'.cell? ⟨N, off + j, none⟩ = some (.int .u64 ((Pk.flds s.data.toList).getD j 0 : Nat))) ∧ Below w.heap.size w w' := by
  have u := Pk.unp_six (l := s.data.toList) (by rw [ls, hs])
  refine (unpack_any (some ⟨B, 0, none⟩) 7 Pk.wid s (by decide) (by decide) (by decide) (by omega) w R).mono ?_
  rintro e w' ⟨a, cap, he, hc, hr, hb, hn⟩
  rw [u.2] at he hr
  rw [u.1] at he
  obtain ⟨N, off, rfl, lN, cN⟩ := hr.cell (by show 0 < 7; omega)
  refine ⟨N, off, cap, he, ⟨hn N off rfl, lN⟩, fun j hj => ?_, hb⟩
  rw [cN j hj, getD_ofNat _ _ hj]
/-- One number in a block of its own. -/
def One (w : World) (b : Nat) (v : Int) : Prop := Cel w b 1 (fun _ => .int .i64 v)
/-- The first k numbers are at their places. -/
def Plc (w : World) (Y0 Y1 Y2 Y3 X : Nat) (f : Nat → Nat) (k : Nat) : Prop :=
  One w Y0 (if 0 < k then f 0 else 0 : Nat) ∧ One w Y1 (if 1 < k then f 1 else 0 : Nat) ∧ One w Y2 (if 2 < k then f 2 else 0 : Nat) ∧ Cel w X 5 (pkCel ⟨false, (if 3 < k then f 3 else 0 : Nat), (if 4 < k then f 4 else 0 : Nat), (if 5 < k then f 5 else 0 : Nat), ⟨#[]⟩⟩) ∧ One w Y3 (if 6 < k then f 6 else 0 : Nat)
def plcP (Y0 Y1 Y2 Y3 X : Nat) (j : Nat) : Value := match j with
  | 0 => .pointer (some ⟨Y0, 0, none⟩) | 1 => .pointer (some ⟨Y1, 0, none⟩) | 2 => .pointer (some ⟨Y2, 0, none⟩) | 3 => .pointer (some ⟨X, 1, none⟩) | 4 => .pointer (some ⟨X, 2, none⟩) | 5 => .pointer (some ⟨X, 3, none⟩) | _ => .pointer (some ⟨Y3, 0, none⟩)
/-- No two of them are the same. -/
def Apart5 (a b c d e : Nat) : Prop := (a ≠ b ∧ a ≠ c ∧ a ≠ d ∧ a ≠ e) ∧ (b ≠ c ∧ b ≠ d ∧ b ≠ e) ∧ (c ≠ d ∧ c ≠ e) ∧ d ≠ e
theorem plc_0 {w : World} {Y0 Y1 Y2 Y3 X : Nat} {f : Nat → Nat} (A : Apart5 Y0 Y1 Y2 Y3 X) (h : Plc w Y0 Y1 Y2 Y3 X f 0) : Plc (w.setCell ⟨Y0, 0, none⟩ (.int .i64 (f 0 : Nat))) Y0 Y1 Y2 Y3 X f 1 := by
  obtain ⟨⟨a1, a2, a3, a4⟩, ⟨a5, a6, a7⟩, ⟨a8, a9⟩, a10⟩ := A
  obtain ⟨h0, h1, h2, hx, h3⟩ := h
  refine ⟨?_, ?_, ?_, ?_, ?_⟩
  · refine (Cel.set h0 0 _).congr (fun j hj => ?_)
    obtain rfl : j = 0 := by omega
    rfl
  · exact Cel.setOther h1 (by omega) _
  · exact Cel.setOther h2 (by omega) _
  · exact hx.setOther (by omega) _
  · exact Cel.setOther h3 (by omega) _
theorem plc_1 {w : World} {Y0 Y1 Y2 Y3 X : Nat} {f : Nat → Nat} (A : Apart5 Y0 Y1 Y2 Y3 X) (h : Plc w Y0 Y1 Y2 Y3 X f 1) : Plc (w.setCell ⟨Y1, 0, none⟩ (.int .i64 (f 1 : Nat))) Y0 Y1 Y2 Y3 X f 2 := by
  obtain ⟨⟨a1, a2, a3, a4⟩, ⟨a5, a6, a7⟩, ⟨a8, a9⟩, a10⟩ := A
  obtain ⟨h0, h1, h2, hx, h3⟩ := h
  refine ⟨?_, ?_, ?_, ?_, ?_⟩
  · exact Cel.setOther h0 (by omega) _
  · refine (Cel.set h1 0 _).congr (fun j hj => ?_)
    obtain rfl : j = 0 := by omega
    rfl
  · exact Cel.setOther h2 (by omega) _
  · exact hx.setOther (by omega) _
  · exact Cel.setOther h3 (by omega) _
theorem plc_2 {w : World} {Y0 Y1 Y2 Y3 X : Nat} {f : Nat → Nat} (A : Apart5 Y0 Y1 Y2 Y3 X) (h : Plc w Y0 Y1 Y2 Y3 X f 2) : Plc (w.setCell ⟨Y2, 0, none⟩ (.int .i64 (f 2 : Nat))) Y0 Y1 Y2 Y3 X f 3 := by
  obtain ⟨⟨a1, a2, a3, a4⟩, ⟨a5, a6, a7⟩, ⟨a8, a9⟩, a10⟩ := A
  obtain ⟨h0, h1, h2, hx, h3⟩ := h
  refine ⟨?_, ?_, ?_, ?_, ?_⟩
  · exact Cel.setOther h0 (by omega) _
  · exact Cel.setOther h1 (by omega) _
  · refine (Cel.set h2 0 _).congr (fun j hj => ?_)
    obtain rfl : j = 0 := by omega
    rfl
  · exact hx.setOther (by omega) _
  · exact Cel.setOther h3 (by omega) _
theorem plc_3 {w : World} {Y0 Y1 Y2 Y3 X : Nat} {f : Nat → Nat} (A : Apart5 Y0 Y1 Y2 Y3 X) (h : Plc w Y0 Y1 Y2 Y3 X f 3) : Plc (w.setCell ⟨X, 1, none⟩ (.int .i64 (f 3 : Nat))) Y0 Y1 Y2 Y3 X f 4 := by
  obtain ⟨⟨a1, a2, a3, a4⟩, ⟨a5, a6, a7⟩, ⟨a8, a9⟩, a10⟩ := A
  obtain ⟨h0, h1, h2, hx, h3⟩ := h
  refine ⟨?_, ?_, ?_, ?_, ?_⟩
  · exact Cel.setOther h0 (by omega) _
  · exact Cel.setOther h1 (by omega) _
  · exact Cel.setOther h2 (by omega) _
  · refine (hx.set 1 _).congr (fun j hj => ?_)
    match j, hj with
    | 0, _ => rfl
    | 1, _ => rfl
    | 2, _ => rfl
    | 3, _ => rfl
    | 4, _ => rfl
  · exact Cel.setOther h3 (by omega) _
theorem plc_4 {w : World} {Y0 Y1 Y2 Y3 X : Nat} {f : Nat → Nat} (A : Apart5 Y0 Y1 Y2 Y3 X) (h : Plc w Y0 Y1 Y2 Y3 X f 4) : Plc (w.setCell ⟨X, 2, none⟩ (.int .i64 (f 4 : Nat))) Y0 Y1 Y2 Y3 X f 5 := by
  obtain ⟨⟨a1, a2, a3, a4⟩, ⟨a5, a6, a7⟩, ⟨a8, a9⟩, a10⟩ := A
  obtain ⟨h0, h1, h2, hx, h3⟩ := h
  refine ⟨?_, ?_, ?_, ?_, ?_⟩
  · exact Cel.setOther h0 (by omega) _
  · exact Cel.setOther h1 (by omega) _
  · exact Cel.setOther h2 (by omega) _
  · refine (hx.set 2 _).congr (fun j hj => ?_)
    match j, hj with
    | 0, _ => rfl
    | 1, _ => rfl
    | 2, _ => rfl
    | 3, _ => rfl
    | 4, _ => rfl
  · exact Cel.setOther h3 (by omega) _
theorem plc_5 {w : World} {Y0 Y1 Y2 Y3 X : Nat} {f : Nat → Nat} (A : Apart5 Y0 Y1 Y2 Y3 X) (h : Plc w Y0 Y1 Y2 Y3 X f 5) : Plc (w.setCell ⟨X, 3, none⟩ (.int .i64 (f 5 : Nat))) Y0 Y1 Y2 Y3 X f 6 := by
  obtain ⟨⟨a1, a2, a3, a4⟩, ⟨a5, a6, a7⟩, ⟨a8, a9⟩, a10⟩ := A
  obtain ⟨h0, h1, h2, hx, h3⟩ := h
  refine ⟨?_, ?_, ?_, ?_, ?_⟩
  · exact Cel.setOther h0 (by omega) _
  · exact Cel.setOther h1 (by omega) _
  · exact Cel.setOther h2 (by omega) _
  · refine (hx.set 3 _).congr (fun j hj => ?_)
    match j, hj with
    | 0, _ => rfl
    | 1, _ => rfl
    | 2, _ => rfl
    | 3, _ => rfl
    | 4, _ => rfl
  · exact Cel.setOther h3 (by omega) _
theorem plc_6 {w : World} {Y0 Y1 Y2 Y3 X : Nat} {f : Nat → Nat} (A : Apart5 Y0 Y1 Y2 Y3 X) (h : Plc w Y0 Y1 Y2 Y3 X f 6) : Plc (w.setCell ⟨Y3, 0, none⟩ (.int .i64 (f 6 : Nat))) Y0 Y1 Y2 Y3 X f 7 := by
  obtain ⟨⟨a1, a2, a3, a4⟩, ⟨a5, a6, a7⟩, ⟨a8, a9⟩, a10⟩ := A
  obtain ⟨h0, h1, h2, hx, h3⟩ := h
  refine ⟨?_, ?_, ?_, ?_, ?_⟩
  · exact Cel.setOther h0 (by omega) _
  · exact Cel.setOther h1 (by omega) _
  · exact Cel.setOther h2 (by omega) _
  · exact hx.setOther (by omega) _
  · refine (Cel.set h3 0 _).congr (fun j hj => ?_)
    obtain rfl : j = 0 := by omega
    rfl
theorem plc_step {w : World} {Y0 Y1 Y2 Y3 X : Nat} {f : Nat → Nat} (A : Apart5 Y0 Y1 Y2 Y3 X) {k : Nat} (hk : k < 7) (h : Plc w Y0 Y1 Y2 Y3 X f k) : ∃ tb to0 old, plcP Y0 Y1 Y2 Y3 X k = .pointer (some ⟨tb, to0, none⟩) ∧ (tb = Y0 ∨ tb = Y1 ∨ tb = Y2 ∨ tb = Y3 ∨ tb = X) ∧ w.cell? ⟨tb, to0, none⟩ = some old ∧ w.frozen? ⟨tb, to0, none⟩ = false ∧ Plc (w.setCell ⟨tb, to0, none⟩ (.int .i64 (f k : Nat))) Y0 Y1 Y2 Y3 X f (k + 1) := by
  match k, hk with
  | 0, _ => exact ⟨Y0, 0, _, rfl, by omega, Cel.cell h.1 (j := 0) (by omega), Cel.frozen h.1 (by omega), plc_0 A h⟩
  | 1, _ => exact ⟨Y1, 0, _, rfl, by omega, Cel.cell h.2.1 (j := 0) (by omega), Cel.frozen h.2.1 (by omega), plc_1 A h⟩
  | 2, _ => exact ⟨Y2, 0, _, rfl, by omega, Cel.cell h.2.2.1 (j := 0) (by omega), Cel.frozen h.2.2.1 (by omega), plc_2 A h⟩
  | 3, _ => exact ⟨X, 1, _, rfl, by omega, Cel.cell h.2.2.2.1 (j := 1) (by omega), Cel.frozen h.2.2.2.1 (by omega), plc_3 A h⟩
  | 4, _ => exact ⟨X, 2, _, rfl, by omega, Cel.cell h.2.2.2.1 (j := 2) (by omega), Cel.frozen h.2.2.2.1 (by omega), plc_4 A h⟩
  | 5, _ => exact ⟨X, 3, _, rfl, by omega, Cel.cell h.2.2.2.1 (j := 3) (by omega), Cel.frozen h.2.2.2.1 (by omega), plc_5 A h⟩
  | 6, _ => exact ⟨Y3, 0, _, rfl, by omega, Cel.cell h.2.2.2.2 (j := 0) (by omega), Cel.frozen h.2.2.2.2 (by omega), plc_6 A h⟩

set_option maxHeartbeats 8000000 in
theorem pread_any (s : ByteArray) (hs : s.size = 6) (Y0 Y1 Y2 Y3 X PB n0 : Nat) (A : Apart5 Y0 Y1 Y2 Y3 X) (AP : PB ≠ Y0 ∧ PB ≠ Y1 ∧ PB ≠ Y2 ∧ PB ≠ Y3 ∧ PB ≠ X) (L : n0 ≤ Y0 ∧ n0 ≤ Y1 ∧ n0 ≤ Y2 ∧ n0 ≤ Y3 ∧ n0 ≤ X) (w : World)
    (C : Plc w Y0 Y1 Y2 Y3 X (fun j => (Pk.flds s.data.toList).getD j 0) 0) (CP : Cel w PB 7 (plcP Y0 Y1 Y2 Y3 X)) :
    Calls Try.prog 49 #[.string s, .slice (some ⟨PB, 0, none⟩) 7 7] w fun e w' => e = .returned (.tuple #[]) ∧ Plc w' Y0 Y1 Y2 Y3 X (fun j => (Pk.flds s.data.toList).getD j 0) 7 ∧ Below n0 w w' := by
  have HWD := Lib.hid (fun w => headWidths_any w)
  have UN := Lib.hid (fun B w (R : FReads .i64 w (some ⟨B, 0, none⟩) Pk.wid) => unpack_hdr B s hs w R)
  obtain ⟨f, hf⟩ : ∃ f : Nat → Nat, (fun j => (Pk.flds s.data.toList).getD j 0) = f := ⟨_, rfl⟩
  have fb : ∀ j, j < 7 → f j ≤ 100000 := fun j hj => by
    rw [← hf]
    have b0 := Pk.nb_lt s.data.toList 0
    have b1 := Pk.nb_lt s.data.toList 1
    have b2 := Pk.nb_lt s.data.toList 2
    have b3 := Pk.nb_lt s.data.toList 3
    have b4 := Pk.nb_lt s.data.toList 4
    have b5 := Pk.nb_lt s.data.toList 5
    match j, hj with
    | 0, _ => show Pk.nb s.data.toList 0 / 32 ≤ 100000; omega
    | 1, _ => show Pk.nb s.data.toList 0 / 16 % 2 ≤ 100000; omega
    | 2, _ => show Pk.nb s.data.toList 0 / 8 % 2 ≤ 100000; omega
    | 3, _ => show Pk.nb s.data.toList 0 % 8 * 256 + Pk.nb s.data.toList 1 ≤ 100000; omega
    | 4, _ => show Pk.nb s.data.toList 2 / 64 ≤ 100000; omega
    | 5, _ => show Pk.nb s.data.toList 2 % 64 * 256 + Pk.nb s.data.toList 3 ≤ 100000; omega
    | 6, _ => show Pk.nb s.data.toList 4 * 256 + Pk.nb s.data.toList 5 ≤ 100000; omega
  have HF := Lib.hid hf
  have FB := Lib.hid fb
  have HA := Lib.hid A
  have HAP := Lib.hid AP
  have HL := Lib.hid L
  rw [hf] at C ⊢
  have HC := Lib.hid C
  have HP := Lib.hid CP
  clear hf fb A AP L C CP hs
  go_enter Try.func49, Try.ntmps49
  go_wp2_with fail
  (with_reducible refine (HWD.out _).mono ?_)
  rintro e w1 ⟨B, rfl, F1, h1⟩
  have U1 := Lib.hid (UN.out B w1 F1)
  have H1 := Lib.hid h1
  clear F1 h1
  go_wp2_with fail
  (with_reducible refine U1.out.mono ?_)
  rintro e w2 ⟨N, off, cap, rfl, ⟨N1, N2⟩, cN, h2⟩
  have CN := Lib.hid (show ∀ j, j < 7 → w2.cell? ⟨N, off + j, none⟩ = some (.int .u64 (f j : Nat)) from fun j hj => by rw [cN j hj, ← HF.out])
  have H2 := Lib.hid (bt H1.out h2)
  have NW := Lib.hid (Nat.le_trans H1.out.size N1)
  have C2 : Plc w2 Y0 Y1 Y2 Y3 X f 0 := by
    obtain ⟨q0, q1, q2, qx, q3⟩ := HC.out
    exact ⟨Cel.below q0 H2.out, Cel.below q1 H2.out, Cel.below q2 H2.out, qx.below H2.out, Cel.below q3 H2.out⟩
  have P2 := Lib.hid (HP.out.below H2.out)
  have NN := Lib.hid (show N ≠ Y0 ∧ N ≠ Y1 ∧ N ≠ Y2 ∧ N ≠ Y3 ∧ N ≠ X from by
    obtain ⟨q0, q1, q2, qx, q3⟩ := HC.out
    have := q0.1
    have := q1.1
    have := q2.1
    have := qx.1
    have := q3.1
    have := NW.out
    omega)
  have C2 := Lib.hid C2
  have HC0 := Lib.hid (show Y0 < w.heap.size from HC.out.1.1)
  clear cN h2 N1 HC HP H1
  go_wp2_with fail
  go_loopw [16] (fun i wr => ∃ k : Nat, k ≤ 7 ∧ i = .int .i64 k ∧ Plc wr Y0 Y1 Y2 Y3 X f k ∧ wr.heap[N]? = w2.heap[N]? ∧ wr.heap[PB]? = w2.heap[PB]? ∧ Below n0 w2 wr) (fun i _ => 7 - (intOf i).toNat)
  case atStart => exact ⟨0, Nat.zero_le _, rfl, C2.out, rfl, rfl, Below.refl _ _⟩
  case round =>
    obtain ⟨k, hk, rfl, hc, hN, hP, hB⟩ := hrel
    by_cases hlt : k < 7
    · have cn : wr.cell? ⟨N, off + k, none⟩ = some (.int .u64 (f k : Nat)) := by
        have h := CN.out k hlt
        unfold World.cell? at h ⊢
        rw [hN]
        exact h
      have cp := (P2.out.of_block hP).cell (j := k) hlt
      have fk := FB.out k hlt
      obtain ⟨tb, to0, old, ep, et, cc, fr, hs⟩ := plc_step HA.out hlt hc
      rw [ep] at cp
      have CC := Lib.hid hs
      have NB := Lib.hid ((Below.heap_setCell wr ⟨tb, to0, none⟩ (.int .i64 (f k : Nat)) N (by have := NN.out; show N ≠ tb; omega)).trans hN)
      have PP := Lib.hid ((Below.heap_setCell wr ⟨tb, to0, none⟩ (.int .i64 (f k : Nat)) PB (by have := HAP.out; show PB ≠ tb; omega)).trans hP)
      have BB := Lib.hid (hB.setCell (p := ⟨tb, to0, none⟩) (by have := HL.out; show n0 ≤ tb; omega) (.int .i64 (f k : Nat)))
      obtain ⟨x, hx⟩ : ∃ x, f k = x := ⟨_, rfl⟩
      rw [hx] at cn fk CC NB PP BB
      clear hx hc hN hP hB ep et hs
      go_wp2_with fail
      go_roundw
      case rel => exact ⟨k + 1, by omega, by go_num, CC.out, NB.out, PP.out, BB.out⟩
      case measure => simp [intOf]; omega
    · obtain rfl : k = 7 := by omega
      have HCC := Lib.hid hc
      have HBB := Lib.hid (show Below n0 w wr from (H2.out.mono (by have := HL.out; have := HC0.out; omega)).trans hB)
      clear hc hN hP hB hlt hk
      go_wp2_with fail
      go_end0
      exact ⟨rfl, HCC.out, HBB.out⟩
end Go.Proofs.Ytphkaambodecdaa
