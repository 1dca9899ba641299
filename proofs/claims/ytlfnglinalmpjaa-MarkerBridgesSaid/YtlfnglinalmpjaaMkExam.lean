/- Layer 8: the reference's finder: examine. -/
import Derived.Test.YtlfnglinalmpjaaMkWrong
namespace Go.Proofs.Ytlfnglinalmpjaa
open Go.RowKit
set_option linter.unusedVariables false

/-- A struct of seven cells that may be written. -/
def FO (w : World) (b : Nat) (f : Nat → Value) : Prop := b < w.heap.size ∧ ∀ j, j < 7 → w.cell? ⟨b, j, none⟩ = some (f j) ∧ w.frozen? ⟨b, j, none⟩ = false
namespace FO
variable {w w' : World} {b : Nat} {f g : Nat → Value}
theorem cell (h : FO w b f) {j : Nat} (hj : j < 7) : w.cell? ⟨b, j, none⟩ = some (f j) := (h.2 j hj).1
theorem frozen (h : FO w b f) {j : Nat} (hj : j < 7) : w.frozen? ⟨b, j, none⟩ = false := (h.2 j hj).2
theorem congr (h : FO w b f) (e : ∀ j, j < 7 → f j = g j) : FO w b g := ⟨h.1, fun j hj => by rw [← e j hj]; exact h.2 j hj⟩
theorem set (h : FO w b f) (i : Nat) (v : Value) : FO (w.setCell ⟨b, i, none⟩ v) b (fun j => if j = i then v else f j) := by
  refine ⟨by rw [World.size_setCell]; exact h.1, fun j hj => ?_⟩
  obtain ⟨h1, h2⟩ := h.2 j hj
  refine ⟨?_, by rw [World.frozen?_setCell]; exact h2⟩
  show _ = some (if j = i then v else f j)
  by_cases e : j = i
  · subst e
    rw [World.cell?_setCell_same' _ _ _ (by rw [h1]; rfl), if_pos rfl]
  · rw [World.cell?_setCell_other (h := addr_off (fun x => e x.symm)), if_neg e]
    exact h1
theorem below (h : FO w b f) (hb : Below w.heap.size w w') : FO w' b f :=
  ⟨Nat.lt_of_lt_of_le h.1 hb.size, fun j hj => ⟨(hb.cell (p := ⟨b, j, none⟩) h.1).trans (h.cell hj), (hb.frozen (p := ⟨b, j, none⟩) h.1).trans (h.frozen hj)⟩⟩
end FO
/-- The finder's cells. -/
def fobj (len : Int) (L : Value) (s : Mk.Fs) : Nat → Value
  | 0 => .int .i64 len
  | 1 => L
  | 2 => .bool s.locked
  | 3 => .int .i64 (s.place : Nat)
  | 4 => .bool s.begun
  | 5 => .int .i64 (s.wrong : Nat)
  | _ => .int .i64 (s.misses : Nat)
set_option maxRecDepth 100000 in
set_option maxHeartbeats 2000000 in
theorem rexam_begun (b n cap : Nat) (len : Int) (ao : Option Addr) (zs : List Int) (s : Mk.Fs) (hn : zs.length = n) (hl : n ≤ 1000000000) (hpl : s.place ≤ n) (hms : s.misses ≤ 3) (w : World) (F : FO w b (fobj len (.slice ao n cap) s)) (R : Ints w ao zs) (hc : s.begun = true) :
    Calls Try.prog 40 #[.pointer (some ⟨b, 0, none⟩)] w fun e w' => e = .returned (.bool false) ∧ FO w' b (fobj len (.slice ao n cap) (s)) ∧ But b w w' := by
  obtain ⟨lk, pl, bg, wr0, ms⟩ := s
  simp only at hpl hms
  have F0 := Lib.hid F
  have c1 := F.cell (j := 1) (by omega)
  have c2 := F.cell (j := 2) (by omega)
  have c3 := F.cell (j := 3) (by omega)
  have c4 := F.cell (j := 4) (by omega)
  have c6 := F.cell (j := 6) (by omega)
  simp only [fobj] at c1 c2 c3 c4 c6
  simp only at hc
  subst hc
  clear F R hn
  go_enter Try.func40, Try.ntmps40
  go_wp2_with fail
  go_quiet (fail)
  go_wp2_with fail
  go_ret
  exact ⟨rfl, F0.out.below (below_drewN (Below.refl _ _) _), But.of_below (below_drewN (Below.refl _ _) _) (Nat.le_of_lt F0.out.1)⟩
set_option maxRecDepth 100000 in
set_option maxHeartbeats 2000000 in
theorem rexam_few (b n cap : Nat) (len : Int) (ao : Option Addr) (zs : List Int) (s : Mk.Fs) (hn : zs.length = n) (hl : n ≤ 1000000000) (hpl : s.place ≤ n) (hms : s.misses ≤ 3) (w : World) (F : FO w b (fobj len (.slice ao n cap) s)) (R : Ints w ao zs) (hc : s.begun = false) (hd : n < s.place + 32) :
    Calls Try.prog 40 #[.pointer (some ⟨b, 0, none⟩)] w fun e w' => e = .returned (.bool false) ∧ FO w' b (fobj len (.slice ao n cap) (s)) ∧ But b w w' := by
  obtain ⟨lk, pl, bg, wr0, ms⟩ := s
  simp only at hpl hms
  have F0 := Lib.hid F
  have c1 := F.cell (j := 1) (by omega)
  have c2 := F.cell (j := 2) (by omega)
  have c3 := F.cell (j := 3) (by omega)
  have c4 := F.cell (j := 4) (by omega)
  have c6 := F.cell (j := 6) (by omega)
  simp only [fobj] at c1 c2 c3 c4 c6
  simp only at hc hd
  subst hc
  have t1 : decide ((n : Int) < (pl : Int) + 32) = true := by simp; omega
  have w1 : IntKind.i64.wrap ((pl : Int) + 32) = (pl : Int) + 32 := by rw [IntKind.wrap_i64]; omega
  clear F R hn
  go_enter Try.func40, Try.ntmps40
  go_wp2_with fail
  go_quiet (fail)
  go_wp2_with fail
  go_ret
  exact ⟨rfl, F0.out.below (below_drewN (Below.refl _ _) _), But.of_below (below_drewN (Below.refl _ _) _) (Nat.le_of_lt F0.out.1)⟩
set_option maxRecDepth 100000 in
set_option maxHeartbeats 2000000 in
theorem rexam_found (b n cap : Nat) (len : Int) (ao : Option Addr) (zs : List Int) (s : Mk.Fs) (hn : zs.length = n) (hl : n ≤ 1000000000) (hpl : s.place ≤ n) (hms : s.misses ≤ 3) (w : World) (F : FO w b (fobj len (.slice ao n cap) s)) (R : Ints w ao zs) (hc : s.begun = false) (hd : s.place + 32 ≤ n) (hw2 : Mk.wrongAt (fz zs) s.place 32 ≤ 2) :
    Calls Try.prog 40 #[.pointer (some ⟨b, 0, none⟩)] w fun e w' => e = .returned (.bool true) ∧ FO w' b (fobj len (.slice ao n cap) (Mk.exam (fz zs) s)) ∧ But b w w' := by
  obtain ⟨lk, pl, bg, wr0, ms⟩ := s
  simp only at hpl hms
  have F0 := Lib.hid F
  have c1 := F.cell (j := 1) (by omega)
  have c2 := F.cell (j := 2) (by omega)
  have c3 := F.cell (j := 3) (by omega)
  have c4 := F.cell (j := 4) (by omega)
  have c6 := F.cell (j := 6) (by omega)
  simp only [fobj] at c1 c2 c3 c4 c6
  simp only at hc hd hw2
  subst hc
  have t1 : decide ((n : Int) < (pl : Int) + 32) = false := by simp; omega
  have w8 : IntKind.i64.wrap ((pl : Int) + 32) = (pl : Int) + 32 := by rw [IntKind.wrap_i64]; omega
  obtain ⟨m1, hm1⟩ : ∃ m1, ms + 1 = m1 := ⟨_, rfl⟩
  obtain ⟨p1, hp1⟩ : ∃ p1, pl + 1 = p1 := ⟨_, rfl⟩
  have w9 : IntKind.i64.wrap ((pl : Int) + 1) = (p1 : Int) := by rw [IntKind.wrap_i64]; omega
  have w10 : IntKind.i64.wrap ((ms : Int) + 1) = (m1 : Int) := by rw [IntKind.wrap_i64]; omega
  have RW := Lib.hid (fun w' (q : Below w.heap.size w w') => rwrong_any b pl n cap ao zs hn hd hl w' (F0.out.below q).1 ((F0.out.below q).cell (j := 1) (by omega)) ((F0.out.below q).cell (j := 3) (by omega)) (R.below q))
  have HE := Lib.hid (show Mk.exam (fz zs) ⟨lk, pl, false, wr0, ms⟩ = ⟨true, pl, true, Mk.wrongAt (fz zs) pl 32, 0⟩ by unfold Mk.exam; rw [if_pos hw2])
  obtain ⟨c, hcc⟩ : ∃ c, Mk.wrongAt (fz zs) pl 32 = c := ⟨_, rfl⟩
  rw [hcc] at RW hw2
  try rw [hcc] at HE
  have t2 : decide ((c : Int) ≤ 2) = true := by simp; omega
  clear F R hn hm1 hp1
  go_enter Try.func40, Try.ntmps40
  go_wp2_with fail
  go_quiet (fail)
  go_wp2_with fail
  (with_reducible refine (RW.out _ (below_drewN (Below.refl _ _) _)).mono ?_)
  rintro e w1 ⟨rfl, h1⟩
  have B1 := bt (below_drewN (Below.refl _ _) _) h1
  have F1 := F0.out.below B1
  have k1 : w1.cell? ⟨b, 2, none⟩ = some (.bool lk) := (F1).cell (j := 2) (by omega)
  have z1 : w1.frozen? ⟨b, 2, none⟩ = false := (F1).frozen (j := 2) (by omega)
  have k2 : (w1.setCell ⟨b, 2, none⟩ (.bool true)).cell? ⟨b, 6, none⟩ = some (.int .i64 (ms : Nat)) := ((F1).set 2 (.bool true)).cell (j := 6) (by omega)
  have z2 : (w1.setCell ⟨b, 2, none⟩ (.bool true)).frozen? ⟨b, 6, none⟩ = false := ((F1).set 2 (.bool true)).frozen (j := 6) (by omega)
  have k3 : ((w1.setCell ⟨b, 2, none⟩ (.bool true)).setCell ⟨b, 6, none⟩ (.int .i64 0)).cell? ⟨b, 4, none⟩ = some (.bool false) := (((F1).set 2 (.bool true)).set 6 (.int .i64 0)).cell (j := 4) (by omega)
  have z3 : ((w1.setCell ⟨b, 2, none⟩ (.bool true)).setCell ⟨b, 6, none⟩ (.int .i64 0)).frozen? ⟨b, 4, none⟩ = false := (((F1).set 2 (.bool true)).set 6 (.int .i64 0)).frozen (j := 4) (by omega)
  have k4 : (((w1.setCell ⟨b, 2, none⟩ (.bool true)).setCell ⟨b, 6, none⟩ (.int .i64 0)).setCell ⟨b, 4, none⟩ (.bool true)).cell? ⟨b, 5, none⟩ = some (.int .i64 (wr0 : Nat)) := ((((F1).set 2 (.bool true)).set 6 (.int .i64 0)).set 4 (.bool true)).cell (j := 5) (by omega)
  have z4 : (((w1.setCell ⟨b, 2, none⟩ (.bool true)).setCell ⟨b, 6, none⟩ (.int .i64 0)).setCell ⟨b, 4, none⟩ (.bool true)).frozen? ⟨b, 5, none⟩ = false := ((((F1).set 2 (.bool true)).set 6 (.int .i64 0)).set 4 (.bool true)).frozen (j := 5) (by omega)
  have HF := Lib.hid (show FO ((((w1.setCell ⟨b, 2, none⟩ (.bool true)).setCell ⟨b, 6, none⟩ (.int .i64 0)).setCell ⟨b, 4, none⟩ (.bool true)).setCell ⟨b, 5, none⟩ (.int .i64 (c : Nat))) b (fobj len (.slice ao n cap) ⟨true, pl, true, c, 0⟩) from (((((F1).set 2 (.bool true)).set 6 (.int .i64 0)).set 4 (.bool true)).set 5 (.int .i64 (c : Nat))).congr (fun j hj => by
    match j, hj with
    | 0, _ => rfl
    | 1, _ => rfl
    | 2, _ => rfl
    | 3, _ => rfl
    | 4, _ => rfl
    | 5, _ => rfl
    | 6, _ => rfl))
  have HB := Lib.hid (show But b w ((((w1.setCell ⟨b, 2, none⟩ (.bool true)).setCell ⟨b, 6, none⟩ (.int .i64 0)).setCell ⟨b, 4, none⟩ (.bool true)).setCell ⟨b, 5, none⟩ (.int .i64 (c : Nat))) from (((((But.of_below B1 (Nat.le_of_lt F0.out.1)).setCell 2 (.bool true)).setCell 6 (.int .i64 0)).setCell 4 (.bool true)).setCell 5 (.int .i64 (c : Nat))))
  clear B1 F1 h1 RW F0 hcc c1 c2 c3 c4 c6
  go_wp2_with fail
  go_ret
  exact ⟨rfl, by rw [HE.out]; exact HF.out, HB.out⟩
set_option maxRecDepth 100000 in
set_option maxHeartbeats 2000000 in
theorem rexam_search (b n cap : Nat) (len : Int) (ao : Option Addr) (zs : List Int) (s : Mk.Fs) (hn : zs.length = n) (hl : n ≤ 1000000000) (hpl : s.place ≤ n) (hms : s.misses ≤ 3) (w : World) (F : FO w b (fobj len (.slice ao n cap) s)) (R : Ints w ao zs) (hc : s.begun = false) (hd : s.place + 32 ≤ n) (hw2 : ¬ Mk.wrongAt (fz zs) s.place 32 ≤ 2) (hk : s.locked = false) :
    Calls Try.prog 40 #[.pointer (some ⟨b, 0, none⟩)] w fun e w' => e = .returned (.bool true) ∧ FO w' b (fobj len (.slice ao n cap) (Mk.exam (fz zs) s)) ∧ But b w w' := by
  obtain ⟨lk, pl, bg, wr0, ms⟩ := s
  simp only at hpl hms
  have F0 := Lib.hid F
  have c1 := F.cell (j := 1) (by omega)
  have c2 := F.cell (j := 2) (by omega)
  have c3 := F.cell (j := 3) (by omega)
  have c4 := F.cell (j := 4) (by omega)
  have c6 := F.cell (j := 6) (by omega)
  simp only [fobj] at c1 c2 c3 c4 c6
  simp only at hc hd hw2 hk
  subst hc
  subst hk
  have t1 : decide ((n : Int) < (pl : Int) + 32) = false := by simp; omega
  have w8 : IntKind.i64.wrap ((pl : Int) + 32) = (pl : Int) + 32 := by rw [IntKind.wrap_i64]; omega
  obtain ⟨m1, hm1⟩ : ∃ m1, ms + 1 = m1 := ⟨_, rfl⟩
  obtain ⟨p1, hp1⟩ : ∃ p1, pl + 1 = p1 := ⟨_, rfl⟩
  have w9 : IntKind.i64.wrap ((pl : Int) + 1) = (p1 : Int) := by rw [IntKind.wrap_i64]; omega
  have w10 : IntKind.i64.wrap ((ms : Int) + 1) = (m1 : Int) := by rw [IntKind.wrap_i64]; omega
  have RW := Lib.hid (fun w' (q : Below w.heap.size w w') => rwrong_any b pl n cap ao zs hn hd hl w' (F0.out.below q).1 ((F0.out.below q).cell (j := 1) (by omega)) ((F0.out.below q).cell (j := 3) (by omega)) (R.below q))
  have HE := Lib.hid (show Mk.exam (fz zs) ⟨false, pl, false, wr0, ms⟩ = ⟨false, p1, false, wr0, ms⟩ by subst hp1; unfold Mk.exam; rw [if_neg hw2, if_pos rfl])
  obtain ⟨c, hcc⟩ : ∃ c, Mk.wrongAt (fz zs) pl 32 = c := ⟨_, rfl⟩
  rw [hcc] at RW hw2
  try rw [hcc] at HE
  have t2 : decide ((c : Int) ≤ 2) = false := by simp; omega
  clear F R hn hm1 hp1
  go_enter Try.func40, Try.ntmps40
  go_wp2_with fail
  go_quiet (fail)
  go_wp2_with fail
  (with_reducible refine (RW.out _ (below_drewN (Below.refl _ _) _)).mono ?_)
  rintro e w1 ⟨rfl, h1⟩
  have B1 := bt (below_drewN (Below.refl _ _) _) h1
  have F1 := F0.out.below B1
  have k1 : w1.cell? ⟨b, 2, none⟩ = some (.bool false) := (F1).cell (j := 2) (by omega)
  have k2 : w1.cell? ⟨b, 3, none⟩ = some (.int .i64 (pl : Nat)) := (F1).cell (j := 3) (by omega)
  have k3 : w1.cell? ⟨b, 3, none⟩ = some (.int .i64 (pl : Nat)) := (F1).cell (j := 3) (by omega)
  have z3 : w1.frozen? ⟨b, 3, none⟩ = false := (F1).frozen (j := 3) (by omega)
  have HF := Lib.hid (show FO (w1.setCell ⟨b, 3, none⟩ (.int .i64 (p1 : Nat))) b (fobj len (.slice ao n cap) ⟨false, p1, false, wr0, ms⟩) from ((F1).set 3 (.int .i64 (p1 : Nat))).congr (fun j hj => by
    match j, hj with
    | 0, _ => rfl
    | 1, _ => rfl
    | 2, _ => rfl
    | 3, _ => rfl
    | 4, _ => rfl
    | 5, _ => rfl
    | 6, _ => rfl))
  have HB := Lib.hid (show But b w (w1.setCell ⟨b, 3, none⟩ (.int .i64 (p1 : Nat))) from ((But.of_below B1 (Nat.le_of_lt F0.out.1)).setCell 3 (.int .i64 (p1 : Nat))))
  clear B1 F1 h1 RW F0 hcc c1 c2 c3 c4 c6
  go_wp2_with fail
  go_ret
  exact ⟨rfl, by rw [HE.out]; exact HF.out, HB.out⟩
set_option maxRecDepth 100000 in
set_option maxHeartbeats 2000000 in
theorem rexam_lost (b n cap : Nat) (len : Int) (ao : Option Addr) (zs : List Int) (s : Mk.Fs) (hn : zs.length = n) (hl : n ≤ 1000000000) (hpl : s.place ≤ n) (hms : s.misses ≤ 3) (w : World) (F : FO w b (fobj len (.slice ao n cap) s)) (R : Ints w ao zs) (hc : s.begun = false) (hd : s.place + 32 ≤ n) (hw2 : ¬ Mk.wrongAt (fz zs) s.place 32 ≤ 2) (hk : s.locked = true) (hm : s.misses + 1 = 3) :
    Calls Try.prog 40 #[.pointer (some ⟨b, 0, none⟩)] w fun e w' => e = .returned (.bool true) ∧ FO w' b (fobj len (.slice ao n cap) (Mk.exam (fz zs) s)) ∧ But b w w' := by
  obtain ⟨lk, pl, bg, wr0, ms⟩ := s
  simp only at hpl hms
  have F0 := Lib.hid F
  have c1 := F.cell (j := 1) (by omega)
  have c2 := F.cell (j := 2) (by omega)
  have c3 := F.cell (j := 3) (by omega)
  have c4 := F.cell (j := 4) (by omega)
  have c6 := F.cell (j := 6) (by omega)
  simp only [fobj] at c1 c2 c3 c4 c6
  simp only at hc hd hw2 hk hm
  subst hc
  subst hk
  have t1 : decide ((n : Int) < (pl : Int) + 32) = false := by simp; omega
  have w8 : IntKind.i64.wrap ((pl : Int) + 32) = (pl : Int) + 32 := by rw [IntKind.wrap_i64]; omega
  obtain ⟨m1, hm1⟩ : ∃ m1, ms + 1 = m1 := ⟨_, rfl⟩
  obtain ⟨p1, hp1⟩ : ∃ p1, pl + 1 = p1 := ⟨_, rfl⟩
  have w9 : IntKind.i64.wrap ((pl : Int) + 1) = (p1 : Int) := by rw [IntKind.wrap_i64]; omega
  have w10 : IntKind.i64.wrap ((ms : Int) + 1) = (m1 : Int) := by rw [IntKind.wrap_i64]; omega
  have RW := Lib.hid (fun w' (q : Below w.heap.size w w') => rwrong_any b pl n cap ao zs hn hd hl w' (F0.out.below q).1 ((F0.out.below q).cell (j := 1) (by omega)) ((F0.out.below q).cell (j := 3) (by omega)) (R.below q))
  have HE := Lib.hid (show Mk.exam (fz zs) ⟨true, pl, false, wr0, ms⟩ = ⟨false, p1, false, wr0, m1⟩ by subst hp1; subst hm1; unfold Mk.exam; rw [if_neg hw2, if_neg (by simp), if_pos hm, hm])
  obtain ⟨c, hcc⟩ : ∃ c, Mk.wrongAt (fz zs) pl 32 = c := ⟨_, rfl⟩
  rw [hcc] at RW hw2
  try rw [hcc] at HE
  have t2 : decide ((c : Int) ≤ 2) = false := by simp; omega
  have t3 : ((m1 : Int) == 3) = true := by simp; omega
  clear F R hn hm1 hp1
  go_enter Try.func40, Try.ntmps40
  go_wp2_with fail
  go_quiet (fail)
  go_wp2_with fail
  (with_reducible refine (RW.out _ (below_drewN (Below.refl _ _) _)).mono ?_)
  rintro e w1 ⟨rfl, h1⟩
  have B1 := bt (below_drewN (Below.refl _ _) _) h1
  have F1 := F0.out.below B1
  have k1 : w1.cell? ⟨b, 2, none⟩ = some (.bool true) := (F1).cell (j := 2) (by omega)
  have k2 : w1.cell? ⟨b, 6, none⟩ = some (.int .i64 (ms : Nat)) := (F1).cell (j := 6) (by omega)
  have z2 : w1.frozen? ⟨b, 6, none⟩ = false := (F1).frozen (j := 6) (by omega)
  have k3 : (w1.setCell ⟨b, 6, none⟩ (.int .i64 (m1 : Nat))).cell? ⟨b, 6, none⟩ = some (.int .i64 (m1 : Nat)) := ((F1).set 6 (.int .i64 (m1 : Nat))).cell (j := 6) (by omega)
  have k4 : (w1.setCell ⟨b, 6, none⟩ (.int .i64 (m1 : Nat))).cell? ⟨b, 2, none⟩ = some (.bool true) := ((F1).set 6 (.int .i64 (m1 : Nat))).cell (j := 2) (by omega)
  have z4 : (w1.setCell ⟨b, 6, none⟩ (.int .i64 (m1 : Nat))).frozen? ⟨b, 2, none⟩ = false := ((F1).set 6 (.int .i64 (m1 : Nat))).frozen (j := 2) (by omega)
  have k5 : ((w1.setCell ⟨b, 6, none⟩ (.int .i64 (m1 : Nat))).setCell ⟨b, 2, none⟩ (.bool false)).cell? ⟨b, 3, none⟩ = some (.int .i64 (pl : Nat)) := (((F1).set 6 (.int .i64 (m1 : Nat))).set 2 (.bool false)).cell (j := 3) (by omega)
  have k6 : ((w1.setCell ⟨b, 6, none⟩ (.int .i64 (m1 : Nat))).setCell ⟨b, 2, none⟩ (.bool false)).cell? ⟨b, 3, none⟩ = some (.int .i64 (pl : Nat)) := (((F1).set 6 (.int .i64 (m1 : Nat))).set 2 (.bool false)).cell (j := 3) (by omega)
  have z6 : ((w1.setCell ⟨b, 6, none⟩ (.int .i64 (m1 : Nat))).setCell ⟨b, 2, none⟩ (.bool false)).frozen? ⟨b, 3, none⟩ = false := (((F1).set 6 (.int .i64 (m1 : Nat))).set 2 (.bool false)).frozen (j := 3) (by omega)
  have HF := Lib.hid (show FO (((w1.setCell ⟨b, 6, none⟩ (.int .i64 (m1 : Nat))).setCell ⟨b, 2, none⟩ (.bool false)).setCell ⟨b, 3, none⟩ (.int .i64 (p1 : Nat))) b (fobj len (.slice ao n cap) ⟨false, p1, false, wr0, m1⟩) from ((((F1).set 6 (.int .i64 (m1 : Nat))).set 2 (.bool false)).set 3 (.int .i64 (p1 : Nat))).congr (fun j hj => by
    match j, hj with
    | 0, _ => rfl
    | 1, _ => rfl
    | 2, _ => rfl
    | 3, _ => rfl
    | 4, _ => rfl
    | 5, _ => rfl
    | 6, _ => rfl))
  have HB := Lib.hid (show But b w (((w1.setCell ⟨b, 6, none⟩ (.int .i64 (m1 : Nat))).setCell ⟨b, 2, none⟩ (.bool false)).setCell ⟨b, 3, none⟩ (.int .i64 (p1 : Nat))) from ((((But.of_below B1 (Nat.le_of_lt F0.out.1)).setCell 6 (.int .i64 (m1 : Nat))).setCell 2 (.bool false)).setCell 3 (.int .i64 (p1 : Nat))))
  clear B1 F1 h1 RW F0 hcc c1 c2 c3 c4 c6
  go_wp2_with fail
  go_ret
  exact ⟨rfl, by rw [HE.out]; exact HF.out, HB.out⟩
set_option maxRecDepth 100000 in
set_option maxHeartbeats 2000000 in
theorem rexam_miss (b n cap : Nat) (len : Int) (ao : Option Addr) (zs : List Int) (s : Mk.Fs) (hn : zs.length = n) (hl : n ≤ 1000000000) (hpl : s.place ≤ n) (hms : s.misses ≤ 3) (w : World) (F : FO w b (fobj len (.slice ao n cap) s)) (R : Ints w ao zs) (hc : s.begun = false) (hd : s.place + 32 ≤ n) (hw2 : ¬ Mk.wrongAt (fz zs) s.place 32 ≤ 2) (hk : s.locked = true) (hm : ¬ s.misses + 1 = 3) :
    Calls Try.prog 40 #[.pointer (some ⟨b, 0, none⟩)] w fun e w' => e = .returned (.bool true) ∧ FO w' b (fobj len (.slice ao n cap) (Mk.exam (fz zs) s)) ∧ But b w w' := by
  obtain ⟨lk, pl, bg, wr0, ms⟩ := s
  simp only at hpl hms
  have F0 := Lib.hid F
  have c1 := F.cell (j := 1) (by omega)
  have c2 := F.cell (j := 2) (by omega)
  have c3 := F.cell (j := 3) (by omega)
  have c4 := F.cell (j := 4) (by omega)
  have c6 := F.cell (j := 6) (by omega)
  simp only [fobj] at c1 c2 c3 c4 c6
  simp only at hc hd hw2 hk hm
  subst hc
  subst hk
  have t1 : decide ((n : Int) < (pl : Int) + 32) = false := by simp; omega
  have w8 : IntKind.i64.wrap ((pl : Int) + 32) = (pl : Int) + 32 := by rw [IntKind.wrap_i64]; omega
  obtain ⟨m1, hm1⟩ : ∃ m1, ms + 1 = m1 := ⟨_, rfl⟩
  obtain ⟨p1, hp1⟩ : ∃ p1, pl + 1 = p1 := ⟨_, rfl⟩
  have w9 : IntKind.i64.wrap ((pl : Int) + 1) = (p1 : Int) := by rw [IntKind.wrap_i64]; omega
  have w10 : IntKind.i64.wrap ((ms : Int) + 1) = (m1 : Int) := by rw [IntKind.wrap_i64]; omega
  have RW := Lib.hid (fun w' (q : Below w.heap.size w w') => rwrong_any b pl n cap ao zs hn hd hl w' (F0.out.below q).1 ((F0.out.below q).cell (j := 1) (by omega)) ((F0.out.below q).cell (j := 3) (by omega)) (R.below q))
  have HE := Lib.hid (show Mk.exam (fz zs) ⟨true, pl, false, wr0, ms⟩ = ⟨true, pl, true, Mk.wrongAt (fz zs) pl 32, m1⟩ by subst hm1; unfold Mk.exam; rw [if_neg hw2, if_neg (by simp), if_neg hm])
  obtain ⟨c, hcc⟩ : ∃ c, Mk.wrongAt (fz zs) pl 32 = c := ⟨_, rfl⟩
  rw [hcc] at RW hw2
  try rw [hcc] at HE
  have t2 : decide ((c : Int) ≤ 2) = false := by simp; omega
  have t3 : ((m1 : Int) == 3) = false := by simp; omega
  clear F R hn hm1 hp1
  go_enter Try.func40, Try.ntmps40
  go_wp2_with fail
  go_quiet (fail)
  go_wp2_with fail
  (with_reducible refine (RW.out _ (below_drewN (Below.refl _ _) _)).mono ?_)
  rintro e w1 ⟨rfl, h1⟩
  have B1 := bt (below_drewN (Below.refl _ _) _) h1
  have F1 := F0.out.below B1
  have k1 : w1.cell? ⟨b, 2, none⟩ = some (.bool true) := (F1).cell (j := 2) (by omega)
  have k2 : w1.cell? ⟨b, 6, none⟩ = some (.int .i64 (ms : Nat)) := (F1).cell (j := 6) (by omega)
  have z2 : w1.frozen? ⟨b, 6, none⟩ = false := (F1).frozen (j := 6) (by omega)
  have k3 : (w1.setCell ⟨b, 6, none⟩ (.int .i64 (m1 : Nat))).cell? ⟨b, 6, none⟩ = some (.int .i64 (m1 : Nat)) := ((F1).set 6 (.int .i64 (m1 : Nat))).cell (j := 6) (by omega)
  have k4 : (w1.setCell ⟨b, 6, none⟩ (.int .i64 (m1 : Nat))).cell? ⟨b, 4, none⟩ = some (.bool false) := ((F1).set 6 (.int .i64 (m1 : Nat))).cell (j := 4) (by omega)
  have z4 : (w1.setCell ⟨b, 6, none⟩ (.int .i64 (m1 : Nat))).frozen? ⟨b, 4, none⟩ = false := ((F1).set 6 (.int .i64 (m1 : Nat))).frozen (j := 4) (by omega)
  have k5 : ((w1.setCell ⟨b, 6, none⟩ (.int .i64 (m1 : Nat))).setCell ⟨b, 4, none⟩ (.bool true)).cell? ⟨b, 5, none⟩ = some (.int .i64 (wr0 : Nat)) := (((F1).set 6 (.int .i64 (m1 : Nat))).set 4 (.bool true)).cell (j := 5) (by omega)
  have z5 : ((w1.setCell ⟨b, 6, none⟩ (.int .i64 (m1 : Nat))).setCell ⟨b, 4, none⟩ (.bool true)).frozen? ⟨b, 5, none⟩ = false := (((F1).set 6 (.int .i64 (m1 : Nat))).set 4 (.bool true)).frozen (j := 5) (by omega)
  have HF := Lib.hid (show FO (((w1.setCell ⟨b, 6, none⟩ (.int .i64 (m1 : Nat))).setCell ⟨b, 4, none⟩ (.bool true)).setCell ⟨b, 5, none⟩ (.int .i64 (c : Nat))) b (fobj len (.slice ao n cap) ⟨true, pl, true, c, m1⟩) from ((((F1).set 6 (.int .i64 (m1 : Nat))).set 4 (.bool true)).set 5 (.int .i64 (c : Nat))).congr (fun j hj => by
    match j, hj with
    | 0, _ => rfl
    | 1, _ => rfl
    | 2, _ => rfl
    | 3, _ => rfl
    | 4, _ => rfl
    | 5, _ => rfl
    | 6, _ => rfl))
  have HB := Lib.hid (show But b w (((w1.setCell ⟨b, 6, none⟩ (.int .i64 (m1 : Nat))).setCell ⟨b, 4, none⟩ (.bool true)).setCell ⟨b, 5, none⟩ (.int .i64 (c : Nat))) from ((((But.of_below B1 (Nat.le_of_lt F0.out.1)).setCell 6 (.int .i64 (m1 : Nat))).setCell 4 (.bool true)).setCell 5 (.int .i64 (c : Nat))))
  clear B1 F1 h1 RW F0 hcc c1 c2 c3 c4 c6
  go_wp2_with fail
  go_ret
  exact ⟨rfl, by rw [HE.out]; exact HF.out, HB.out⟩
end Go.Proofs.Ytlfnglinalmpjaa
