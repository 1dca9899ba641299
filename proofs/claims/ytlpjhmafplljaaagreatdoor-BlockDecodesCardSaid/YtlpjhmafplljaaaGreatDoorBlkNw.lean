/- The contracts of block's newWord, Decode over this program. -/
import Derived.Test.YtlpjhmafplljaaaGreatDoorBlkDe
namespace Go.Proofs.YtlpjhmafplljaaaGreatDoor
open Go.RowKit
set_option linter.unusedVariables false

theorem info_bool : (Tryz.prog.info? 4).map (fun i => (i.zero, i.size, i.bytes)) = some (some (.bool false), 1, 1) := by kernel_rfl
theorem Bools.setOther {W : World} {b m : Nat} {f : Nat → Bool} (h : Bools W b m f) {c i : Nat} (hc : c ≠ b) (v : Value) : Bools (W.setCell ⟨c, i, none⟩ v) b m f := by
  refine ⟨by rw [World.size_setCell]; exact h.1, fun j hj => ?_⟩
  obtain ⟨h1, h2⟩ := h.2 j hj
  exact ⟨by rw [World.cell?_setCell_other (h := fun e => hc (congrArg Addr.block e))]; exact h1, by rw [World.frozen?_setCell]; exact h2⟩
/-- A word's two cells. -/
structure Cells1 (w : World) (c : Nat) (a b : Value) : Prop where
  c0 : w.cell? ⟨c, 0, none⟩ = some a
  c1 : w.cell? ⟨c, 1, none⟩ = some b
  f0 : w.frozen? ⟨c, 0, none⟩ = false
  f1 : w.frozen? ⟨c, 1, none⟩ = false
theorem Cells1.below {w w' : World} {c : Nat} {a b : Value} (h : Cells1 w c a b) (hl : c < w.heap.size) (hb : Below w.heap.size w w') : Cells1 w' c a b :=
  ⟨(hb.cell (p := ⟨c, 0, none⟩) hl).trans h.c0, (hb.cell (p := ⟨c, 1, none⟩) hl).trans h.c1, (hb.frozen (p := ⟨c, 0, none⟩) hl).trans h.f0, (hb.frozen (p := ⟨c, 1, none⟩) hl).trans h.f1⟩
theorem Cells1.but {w w' : World} {c g : Nat} {a b : Value} (h : Cells1 w c a b) (hl : c < w.heap.size) (hc : c ≠ g) (hb : But g w w') : Cells1 w' c a b :=
  ⟨(World.cell?_of_block (w := w) (a := ⟨c, 0, none⟩) (hb.rest c hl hc)).trans h.c0, (World.cell?_of_block (w := w) (a := ⟨c, 1, none⟩) (hb.rest c hl hc)).trans h.c1,
    (World.frozen?_of_block (w := w) (a := ⟨c, 0, none⟩) (hb.rest c hl hc)).trans h.f0, (World.frozen?_of_block (w := w) (a := ⟨c, 1, none⟩) (hb.rest c hl hc)).trans h.f1⟩
/-- What newWord does. -/
def NewP (s : ByteArray) (zs : List Int) (n : Nat) (w : World) (e : Ending) (w' : World) : Prop :=
  ∃ b cb eb ce er, e = .returned (.agg #[.slice (some ⟨b, 0, none⟩) n cb, .slice (some ⟨eb, 0, none⟩) n ce]) ∧ Wd w' b cb eb ce n (Gal.co s.data.toList) er ∧ (∀ j, j < n → (er j = true ↔ (j : Int) ∈ zs)) ∧ n ≤ ce ∧ Below w.heap.size w w'
set_option maxRecDepth 100000 in
set_option maxHeartbeats 1000000 in
theorem newWord_any (s : ByteArray) (a : Option Addr) (cap m n : Nat) (zs : List Int) (hn : s.size = n) (n2 : n ≤ 400000) (hm : zs.length = m) (m2 : m ≤ 400000) (hz : Within zs n) (w : World) (R : Ints w a zs) :
    Calls Tryz.prog 28 #[.string s, .slice a m cap] w (NewP s zs n w) := by
  have b0 := ba (Below.refl w.heap.size w) (.cells #[.slice none 0 0, .slice none 0 0] 53)
  have r0 : Cells1 (w.alloc (.cells #[.slice none 0 0, .slice none 0 0] 53)) w.heap.size (.slice none 0 0) (.slice none 0 0) := ⟨World.cell?_alloc_new w _ _ 0, World.cell?_alloc_new w _ _ 1, by go_simp, by go_simp⟩
  have z0 : (w.alloc (.cells #[.slice none 0 0, .slice none 0 0] 53)).heap.size = w.heap.size + 1 := World.size_alloc ..
  obtain ⟨w0, hw0⟩ : ∃ w0, w.alloc (.cells #[.slice none 0 0, .slice none 0 0] 53) = w0 := ⟨_, rfl⟩
  have c1 := run_bytes_of_string (P := Tryz.prog) (w.alloc (.cells #[.slice none 0 0, .slice none 0 0] 53)) 9 41 5 s Tryz.underlying9 Tryz.underlying41 Tryz.underlying5
  have dg := grownCap_ge (w.alloc (.cells #[.slice none 0 0, .slice none 0 0] 53)) s.size 0 5
  obtain ⟨D, hcap⟩ : ∃ D, grownCap (w.alloc (.cells #[.slice none 0 0, .slice none 0 0] 53)) s.size 0 5 = D := ⟨_, rfl⟩
  rw [hcap, hn] at c1
  rw [hcap, hn] at dg
  rw [hw0] at b0 r0 z0
  have n1 := nums_new s D 5 w0.drew
  rw [hn, show w0.drew.heap.size = w0.heap.size from rfl] at n1
  have b4 := ba (Below.refl w0.heap.size w0).drew (.cells (bytesRow s D) 5 ((bytesRow s D).size, (bytesRow s D).size + 1))
  have b4s : w0.heap.size < (w0.drew.alloc (.cells (bytesRow s D) 5 ((bytesRow s D).size, (bytesRow s D).size + 1))).heap.size := by rw [World.size_alloc]; show w0.heap.size < w0.heap.size + 1; omega
  obtain ⟨w4, hw4⟩ : ∃ w4, w0.drew.alloc (.cells (bytesRow s D) 5 ((bytesRow s D).size, (bytesRow s D).size + 1)) = w4 := ⟨_, rfl⟩
  have c1b : (convert 9 41 (.string s)).run Tryz.prog (w.alloc (.cells #[.slice none 0 0, .slice none 0 0] 53)) = .ok (.slice (some ⟨(w.alloc (.cells #[.slice none 0 0, .slice none 0 0] 53)).heap.size, 0, none⟩) n D) ((w.alloc (.cells #[.slice none 0 0, .slice none 0 0] 53)).drew.alloc (.cells (bytesRow s D) 5 ((bytesRow s D).size, (bytesRow s D).size + 1))) := c1
  rw [hw0, hw4] at c1b
  rw [hw4] at n1 b4 b4s
  have C1 := Lib.hid c1b
  have N4 := Lib.hid n1
  have B0 := Lib.hid b0
  have R0 := Lib.hid r0
  have B4 := Lib.hid b4
  have L4 := Lib.hid b4s
  have DG := Lib.hid dg
  have Z0 := Lib.hid z0
  have HR := Lib.hid R
  have HM := Lib.hid hm
  have HZ := Lib.hid hz
  have HW0 := Lib.hid hw0
  have sn := hn
  obtain ⟨i0, hi0, hz0, hz1, hz2⟩ := info_parts info_bool
  clear hw0 c1 c1b n1 b4 b4s b0 r0 z0 hcap dg hw4 hm hz R hn
  go_enter Tryz.func28, Tryz.ntmps28
  go_wp2_with (first
    | (simp only [HW0.out, C1.out])
    | (at_make; refine wpList_make_full _ rfl _ _ 51 rfl w4.heap.size 4 i0 (.bool false) 1 Tryz.underlying51 hi0 hz0 hz1 .i64 .i64 _ _ n rfl rfl rfl rfl (by rw [hz2]; omega) (by unfold maxLen; omega) (Nat.le_refl _) ?_; intro w5 hown hgrow; have B5 := Lib.hid ((Below.refl w4.heap.size w4).grown hgrow (Nat.le_refl _) (fun k e => by cases e)); have N5 := Lib.hid (madeBools hown); clear hown hgrow))
  have b56 := ba (Below.refl w5.heap.size w5) (.cells #[.slice (some ⟨w0.heap.size, 0, none⟩) n D, .slice (some ⟨w4.heap.size, 0, none⟩) n n] 53)
  have x0 : (w5.alloc (.cells #[.slice (some ⟨w0.heap.size, 0, none⟩) n D, .slice (some ⟨w4.heap.size, 0, none⟩) n n] 53)).cell? ⟨w5.heap.size, 0, none⟩ = some (.slice (some ⟨w0.heap.size, 0, none⟩) n D) := World.cell?_alloc_new w5 _ _ 0
  have x1 : (w5.alloc (.cells #[.slice (some ⟨w0.heap.size, 0, none⟩) n D, .slice (some ⟨w4.heap.size, 0, none⟩) n n] 53)).cell? ⟨w5.heap.size, 1, none⟩ = some (.slice (some ⟨w4.heap.size, 0, none⟩) n n) := World.cell?_alloc_new w5 _ _ 1
  have z6 : (w5.alloc (.cells #[.slice (some ⟨w0.heap.size, 0, none⟩) n D, .slice (some ⟨w4.heap.size, 0, none⟩) n n] 53)).heap.size = w5.heap.size + 1 := World.size_alloc ..
  obtain ⟨w6, hw6⟩ : ∃ w6, w5.alloc (.cells #[.slice (some ⟨w0.heap.size, 0, none⟩) n D, .slice (some ⟨w4.heap.size, 0, none⟩) n n] 53) = w6 := ⟨_, rfl⟩
  rw [hw6] at b56 x0 x1 z6 ⊢
  have s4 := B4.out.size
  have s5 := B5.out.size
  have l4 := L4.out
  have zz := Z0.out
  have B06 := Lib.hid (bt (bt (bt B0.out B4.out) B5.out) b56)
  have N6 := Lib.hid (((N4.out.below B5.out).below b56))
  have E6 := Lib.hid (N5.out.below b56)
  have R6 := Lib.hid (((R0.out.below (by omega) B4.out).below (by omega) B5.out).below (by omega) b56)
  obtain ⟨eb, heb⟩ : ∃ eb, w4.heap.size = eb := ⟨_, rfl⟩
  obtain ⟨bb, hbb⟩ : ∃ eb, w0.heap.size = eb := ⟨_, rfl⟩
  obtain ⟨bx, hbx⟩ : ∃ eb, w5.heap.size = eb := ⟨_, rfl⟩
  rw [hbb] at x0
  rw [heb] at x1
  rw [hbx] at x0 x1 z6
  rw [heb] at E6
  rw [hbb] at N6
  rw [heb, hbb, hbx]
  have NBW := Lib.hid (show w.heap.size < bb by omega)
  have ne1 := Lib.hid (show w.heap.size ≠ eb by omega)
  have ne2 := Lib.hid (show bx ≠ eb by have := N5.out.1; omega)
  have ne3 := Lib.hid (show bb ≠ eb by omega)
  have lw6 := Lib.hid (show w.heap.size < w6.heap.size by omega)
  have lx6 := Lib.hid (show bx < w6.heap.size by omega)
  have le := Lib.hid (show w.heap.size ≤ eb by omega)
  have X0 := Lib.hid x0
  have X1 := Lib.hid x1
  have ZT := Lib.hid (show ∀ k, k < m → zs.take (k + 1) = zs.take k ++ [zs.getD k 0] from fun k hk => by
    rw [List.take_succ_eq_append_getElem (by rw [HM.out]; exact hk), getD_at zs (by rw [HM.out]; exact hk)])
  have TE := Lib.hid (show ∀ j : Nat, j < n → (fun _ => false) j = decide ((j : Int) ∈ zs.take 0) from fun j _ => by simp)
  clear hw6 b56 x0 x1 z6 s4 s5 l4 zz heb hbb hbx B4 B5 B0 N5 N4 R0 L4 Z0 hi0 hz0 hz1 hz2
  go_loopw [16] (fun u wr => ∃ k : Nat, k ≤ m ∧ u = .int .i64 (k : Nat) ∧ Bools wr eb n (fun j => decide ((j : Int) ∈ zs.take k)) ∧ But eb w6 wr) (fun u _ => m - (intOf u).toNat)
  case atStart => exact ⟨0, Nat.zero_le _, rfl, E6.out.congr TE.out, But.refl _ _⟩
  case round =>
    obtain ⟨k, hk, rfl, hE, hB⟩ := hrel
    have HE := Lib.hid hE
    have HB := Lib.hid hB
    have sr := Lib.hid hB.below.size
    have Y0 := Lib.hid ((World.cell?_of_block (w := w6) (a := ⟨bx, 0, none⟩) (hB.rest bx lx6.out ne2.out)).trans X0.out)
    have Y1 := Lib.hid ((World.cell?_of_block (w := w6) (a := ⟨bx, 1, none⟩) (hB.rest bx lx6.out ne2.out)).trans X1.out)
    clear hE hB
    by_cases hlt : k < m
    · obtain ⟨ab, ao, ha, lab, hc⟩ := HR.out.cell (by have := HM.out; omega)
      subst ha
      have ck := hc k (by rw [HM.out]; exact hlt)
      have pz := HZ.out (zs.getD k 0) (by rw [getD_at zs (by rw [HM.out]; exact hlt)]; exact List.getElem_mem _)
      obtain ⟨p, hp⟩ : ∃ p : Nat, zs.getD k 0 = (p : Int) := ⟨(zs.getD k 0).toNat, by omega⟩
      rw [hp] at ck pz
      have pn : p < n := by omega
      have ckr := Lib.hid ((World.cell?_of_block (w := w6) (a := ⟨ab, ao + k, none⟩) (HB.out.rest ab (by have := lw6.out; omega) (by have := le.out; omega))).trans ((B06.out.cell (p := ⟨ab, ao + k, none⟩) lab).trans ck))
      have cp := HE.out.cell pn
      have fp := HE.out.frozen pn
      obtain ⟨old, hold⟩ : ∃ o, decide ((p : Int) ∈ zs.take k) = o := ⟨_, rfl⟩
      rw [hold] at cp
      have zt := ZT.out k hlt
      rw [hp] at zt
      have E7 := Lib.hid (HE.out.set (g := fun j => decide ((j : Int) ∈ zs.take (k + 1))) p true pn (by rw [zt]; simp) (fun j _ hj => by
        rw [zt, Bool.eq_iff_iff, decide_eq_true_eq, decide_eq_true_eq, List.mem_append, List.mem_singleton]
        exact ⟨fun h => h.elim id (fun h => absurd (by omega : j = p) hj), .inl⟩))
      have B7 := Lib.hid (HB.out.setCell p (.bool true))
      have y1 := Y1.out
      have q1 := ckr.out
      clear hold hc ck pz zt hp HE HB Y0 TE
      go_wp2_with fail
      go_roundw
      case rel => exact ⟨k + 1, by omega, by go_num, E7.out, B7.out⟩
      case measure => simp [intOf]; omega
    · obtain rfl : k = m := by omega
      have RR := R6.out.but lw6.out ne1.out HB.out
      have y0 := Y0.out
      have y1 := Y1.out
      have k0 := RR.c0
      have k1 := RR.c1
      have k2 := RR.f0
      have k3 := RR.f1
      have NR := Lib.hid (N6.out.but HB.out ne3.out)
      have nw := Lib.hid (show w.heap.size ≠ bb by have := N6.out.1; have := NBW.out; omega)
      have BR := Lib.hid (B06.out.trans (HB.out.below.mono le.out))
      clear TE ZT
      go_wp2_with fail
      have e0 : ((wr.setCell ⟨w.heap.size, 0, none⟩ (.slice (some ⟨bb, 0, none⟩) n D)).setCell ⟨w.heap.size, 1, none⟩ (.slice (some ⟨eb, 0, none⟩) n n)).cell? ⟨w.heap.size, 0, none⟩ = some (.slice (some ⟨bb, 0, none⟩) n D) := by
        rw [World.cell?_setCell_other (h := addr_off (by omega))]; exact World.cell?_setCell_same' _ _ _ (by rw [k0]; rfl)
      have e1 : ((wr.setCell ⟨w.heap.size, 0, none⟩ (.slice (some ⟨bb, 0, none⟩) n D)).setCell ⟨w.heap.size, 1, none⟩ (.slice (some ⟨eb, 0, none⟩) n n)).cell? ⟨w.heap.size, 1, none⟩ = some (.slice (some ⟨eb, 0, none⟩) n n) :=
        World.cell?_setCell_same' _ _ _ (by rw [World.cell?_setCell_other (h := addr_off (by omega)), k1]; rfl)
      have NF := (NR.out.setOther (c := w.heap.size) (i := 0) nw.out (.slice (some ⟨bb, 0, none⟩) n D)).setOther (c := w.heap.size) (i := 1) nw.out (.slice (some ⟨eb, 0, none⟩) n n)
      have EF := (HE.out.setOther (c := w.heap.size) (i := 0) ne1.out (.slice (some ⟨bb, 0, none⟩) n D)).setOther (c := w.heap.size) (i := 1) ne1.out (.slice (some ⟨eb, 0, none⟩) n n)
      have BF := (BR.out.setCell (p := ⟨w.heap.size, 0, none⟩) (Nat.le_refl _) (.slice (some ⟨bb, 0, none⟩) n D)).setCell (p := ⟨w.heap.size, 1, none⟩) (Nat.le_refl _) (.slice (some ⟨eb, 0, none⟩) n n)
      exact bodyPost_ret (v := .agg #[.slice (some ⟨bb, 0, none⟩) n D, .slice (some ⟨eb, 0, none⟩) n n]) (by simp [results, Tryz.results28, go_sem, e0, e1]) rfl ⟨bb, D, eb, n, _, rfl, ⟨NF, EF, DG.out⟩, fun j hj => by
        rw [decide_eq_true_eq, List.take_of_length_le (by rw [HM.out]; exact Nat.le_refl _)], Nat.le_refl _, BF⟩
/-- What Decode does with places that are places. -/
def DecQ (s : ByteArray) (zs : List Int) (n : Nat) (w : World) (e : Ending) (w' : World) : Prop :=
  ∃ er, (∀ j, j < n → (er j = true ↔ (j : Int) ∈ zs)) ∧ DecP s.data.toList (Blk.ers er n) w e w'
set_option maxRecDepth 100000 in
theorem decode_any (s : ByteArray) (a : Option Addr) (cap m n : Nat) (zs : List Int) (hn : s.size = n) (h9 : 9 ≤ n) (n2 : n ≤ 231) (hm : zs.length = m) (m2 : m ≤ 400000) (hz : Within zs n) (w : World) (R : Ints w a zs) :
    Calls Tryz.prog 12 #[.string s, .slice a m cap] w (DecQ s zs n w) := by
  have AP := Lib.hid (arePlaces_any a cap m zs n hm m2 (by omega) w R)
  rw [decide_eq_true hz] at AP
  have NW := Lib.hid (newWord_any s a cap m n zs hn (by omega) hm m2 hz w R)
  have SL := Lib.hid (show Gal.coefs (Gal.co s.data.toList) n = s.data.toList by rw [← hn, ← ls]; exact Gal.coefs_co _)
  have HN := Lib.hid hn
  clear hm hz R
  go_enter Tryz.func12, Tryz.ntmps12
  go_wp2_with fail
  (with_reducible refine AP.out.mono ?_)
  rintro e w' ⟨rfl, rfl⟩
  go_wp2_with fail
  (with_reducible refine NW.out.mono ?_)
  rintro e w1 ⟨b, cb, eb, ce, er, rfl, hW, her, _, hB1⟩
  have DE := Lib.hid (decoded_any b cb eb ce n (Gal.co s.data.toList) er h9 n2 w1 hW)
  have HER := Lib.hid her
  have HB1 := Lib.hid hB1
  clear hW her hB1 AP NW
  go_wp2_with fail
  (with_reducible refine DE.out.mono ?_)
  rintro e w2 ⟨o, k, x, rfl, hd, hB2⟩
  rw [SL.out] at hd
  have FIN := Lib.hid (show DecQ s zs n w (.returned (.tuple #[.string ⟨o.toArray⟩, .int .i64 k, .int .i64 x])) w2 from ⟨er, HER.out, o, k, x, rfl, hd, bt HB1.out hB2⟩)
  obtain ⟨st, hst⟩ : ∃ s : ByteArray, (⟨o.toArray⟩ : ByteArray) = s := ⟨_, rfl⟩
  rw [hst] at FIN ⊢
  clear hd hB2 hst DE HER
  go_wp2_with fail
  go_ret3
  exact FIN.out
set_option maxRecDepth 100000 in
theorem decode_bad (s : ByteArray) (a : Option Addr) (cap m n : Nat) (zs : List Int) (hn : s.size = n) (n2 : n ≤ 400000) (hb : ¬ (9 ≤ n ∧ n ≤ 231 ∧ Within zs n)) (hm : zs.length = m) (m2 : m ≤ 400000) (w : World) (R : Ints w a zs) :
    Calls Tryz.prog 12 #[.string s, .slice a m cap] w fun e w' => e = .returned (.tuple #[.string ⟨#[]⟩, .int .i64 0, .int .i64 2]) ∧ w = w' := by
  by_cases g1 : n < 9
  · clear hb
    go_enter Tryz.func12, Tryz.ntmps12
    go_wp2_with fail
    go_ret3
    exact ⟨rfl, rfl⟩
  · by_cases g2 : 231 < n
    · clear hb
      go_enter Tryz.func12, Tryz.ntmps12
      go_wp2_with fail
      go_ret3
      exact ⟨rfl, rfl⟩
    · have AP := Lib.hid (arePlaces_any a cap m zs n hm m2 (by omega) w R)
      rw [decide_eq_false (show ¬ Within zs n from fun q => hb ⟨by omega, by omega, q⟩)] at AP
      clear hb hm R
      go_enter Tryz.func12, Tryz.ntmps12
      go_wp2_with fail
      (with_reducible refine AP.out.mono ?_)
      rintro e w' ⟨rfl, rfl⟩
      go_wp2_with fail
      go_ret3
      exact ⟨rfl, rfl⟩
end Go.Proofs.YtlpjhmafplljaaaGreatDoor
