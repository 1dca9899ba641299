/- The reference's joiner: Feed. -/
import Derived.Test.YtphkaambodecdaaPkRat
import Derived.Test.YtphkaambodecdaaPkEq
import Derived.Deep.CutRange
import Derived.Deep.CutBlock
namespace Go.Proofs.Ytphkaambodecdaa
open Go.RowKit
set_option linter.unusedVariables false
set_option maxRecDepth 100000

def rkMi (q : Rk) (fr : Bool) (p : Pkt) : Int := if fr = true then 0 else (p.ct - q.nx + 16384) % 16384
def rkBr (q : Rk) (fr : Bool) (p : Pkt) : Bool := q.op && (decide (rkMi q fr p ≠ 0) || (decide (p.fl = 1) || decide (p.fl = 3)))
def rkOp (q : Rk) (fr : Bool) (p : Pkt) : Bool := if rkBr q fr p = true then false else q.op
/-- What Feed makes of what is known of an APID. -/
def rkStep (q : Rk) (fr : Bool) (p : Pkt) : Rk × Pk.Pc :=
  if p.fl = 3 then (⟨q.ap, (p.ct + 1) % 16384, rkOp q fr p, q.tx⟩, ⟨true, p.da.data.toList, rkMi q fr p, rkBr q fr p⟩)
  else if p.fl = 1 then (⟨q.ap, (p.ct + 1) % 16384, true, p.da⟩, ⟨false, [], rkMi q fr p, rkBr q fr p⟩)
  else if rkOp q fr p = false then (⟨q.ap, (p.ct + 1) % 16384, false, q.tx⟩, ⟨false, [], rkMi q fr p, rkBr q fr p⟩)
  else if 16384 < (q.tx ++ p.da).size then (⟨q.ap, (p.ct + 1) % 16384, false, q.tx ++ p.da⟩, ⟨false, [], rkMi q fr p, true⟩)
  else if p.fl = 2 then (⟨q.ap, (p.ct + 1) % 16384, false, q.tx ++ p.da⟩, ⟨true, (q.tx ++ p.da).data.toList, rkMi q fr p, rkBr q fr p⟩)
  else (⟨q.ap, (p.ct + 1) % 16384, true, q.tx ++ p.da⟩, ⟨false, [], rkMi q fr p, rkBr q fr p⟩)
def RkOk (q : Rk) : Prop := (0 ≤ q.nx ∧ q.nx ≤ 16383) ∧ (q.op = true → q.tx.size ≤ 16384)
theorem ty_ne {w : World} {a b : Nat} {s t : TypeId} (h : TyB w a s) (k : TyB w b t) (hn : s ≠ t) : a ≠ b := fun e => by
  subst e
  obtain ⟨c1, f1, e1⟩ := h
  obtain ⟨c2, f2, e2⟩ := k
  rw [e1] at e2
  cases e2
  exact hn rfl
/-- Between two statements of Feed. -/
structure FW (w w5 : World) (n0 r X R O G n cap : Nat) (p : Pkt) (f : Nat → Rk) (g : Nat → Value) (wx : World) : Prop where
  cx : Cel wx X 5 (pkCel p)
  cr : Cel wx R 4 (pcC false ⟨#[]⟩ 0 false)
  co : Cel wx O 4 g
  row : wx.ownsRow n0 83 4 (.slice (some ⟨G, 0, none⟩) n cap) n (rkL f n)
  bu : Buts (fun b => b = G ∨ w.heap.size ≤ b) w5 wx
  ne : (G ≠ X ∧ G ≠ R ∧ G ≠ O) ∧ (X ≠ O ∧ R ≠ O ∧ X ≠ R) ∧ r ≠ G ∧ w.heap.size ≤ O ∧ w.heap.size ≤ R
namespace FW
variable {w w5 wx w' : World} {n0 r X R O G n cap : Nat} {p : Pkt} {f f' : Nat → Rk} {g g' : Nat → Value}
theorem below (h : FW w w5 n0 r X R O G n cap p f g wx) (hb : Below wx.heap.size wx w') : FW w w5 n0 r X R O G n cap p f g w' :=
  ⟨h.cx.below hb, h.cr.below hb, h.co.below hb, own_below h.row hb, h.bu.trans (Buts.of_below hb), h.ne⟩
theorem setO (h : FW w w5 n0 r X R O G n cap p f g wx) (b : But O wx w') (c : Cel w' O 4 g') : FW w w5 n0 r X R O G n cap p f g' w' :=
  ⟨h.cx.but b h.ne.2.1.1, h.cr.but b h.ne.2.1.2.1, c, but_row h.row b (fun e => h.ne.1.2.2 (Option.some.inj e)), h.bu.trans (Buts.of_but b (.inr h.ne.2.2.2.1)), h.ne⟩
theorem setG (h : FW w w5 n0 r X R O G n cap p f g wx) (b : But G wx w') (c : w'.ownsRow n0 83 4 (.slice (some ⟨G, 0, none⟩) n cap) n (rkL f' n)) : FW w w5 n0 r X R O G n cap p f' g w' :=
  ⟨h.cx.but b (Ne.symm h.ne.1.1), h.cr.but b (Ne.symm h.ne.1.2.1), h.co.but b (Ne.symm h.ne.1.2.2), c, h.bu.trans (Buts.of_but b (.inl rfl)), h.ne⟩
theorem both (h : FW w w5 n0 r X R O G n cap p f g wx) (b : Buts (fun b => b = G ∨ b = O) wx w') (c : w'.ownsRow n0 83 4 (.slice (some ⟨G, 0, none⟩) n cap) n (rkL f' n)) (d : Cel w' O 4 g') : FW w w5 n0 r X R O G n cap p f' g' w' :=
  ⟨h.cx.of_block (b.block X h.cx.1 (fun e => e.elim (fun e => h.ne.1.1 e.symm) h.ne.2.1.1)), h.cr.of_block (b.block R h.cr.1 (fun e => e.elim (fun e => h.ne.1.2.1 e.symm) h.ne.2.1.2.1)), d, c, h.bu.trans (b.mono (fun c e => e.imp id (fun e => by have := h.ne.2.2.2.1; omega))), h.ne⟩
theorem fin {f5 : Nat → Rk} (h : FW w w5 n0 r X R O G n cap p f g wx) (hJ : RJ w5 n0 r (.slice (some ⟨G, 0, none⟩) n cap) f5 n) (hr : r < w.heap.size) (K5 : Kp n0 [83, 47] false w w5) (hn0 : n0 ≤ w.heap.size) (s5 : w.heap.size ≤ w5.heap.size) (b : But R wx w') :
    RJ w' n0 r (.slice (some ⟨G, 0, none⟩) n cap) f n ∧ Kp n0 [83, 47] false w w' := by
  have bb : Buts (fun b => b = G ∨ w.heap.size ≤ b) w5 w' := h.bu.trans (Buts.of_but b (.inr h.ne.2.2.2.2))
  have er : w'.heap[r]? = w5.heap[r]? := bb.block r hJ.ty.lt (fun e => e.elim h.ne.2.2.1 (fun e => by omega))
  have hG := own_ty hJ.row (k := G) rfl
  refine ⟨⟨hJ.rl, hJ.ty.of_block er, hJ.cr.of_block er, but_row h.row b (fun e => h.ne.1.2.1 (Option.some.inj e))⟩, ⟨?_, fun c cur t fr e ht => ?_, fun hm c es d e => ?_⟩⟩
  · exact Buts.below K5.below bb (fun c hc => hc.elim (fun e => by rw [e]; exact hG.1) (fun e => by omega)) (Nat.le_trans hn0 K5.below.size)
  · have lc := (Array.getElem?_eq_some_iff.1 e).1
    have e5 := K5.cells c cur t fr e ht
    refine (bb.block c (Nat.lt_of_lt_of_le lc s5) (fun q => ?_)).trans e5
    rcases q with q | q
    · subst q
      obtain ⟨c2, f2, e2⟩ := hG.2
      rw [e5, e] at e2
      cases e2
      exact ht (by simp)
    · omega
  · have lc := (Array.getElem?_eq_some_iff.1 e).1
    have e5 := K5.maps hm c es d e
    refine (bb.block c (Nat.lt_of_lt_of_le lc s5) (fun q => ?_)).trans e5
    rcases q with q | q
    · subst q
      obtain ⟨c2, f2, e2⟩ := hG.2
      rw [e5, e] at e2
      cases e2
    · omega
end FW
set_option maxHeartbeats 4000000 in
theorem rfeed_bad {w : World} {n0 r n : Nat} {sv : Value} {f : Nat → Rk} (h : RJ w n0 r sv f n) (p : Pkt) (hs : p.da.size ≤ 1000000000) (ho : ¬ Pk.Ok p) : Calls Try.prog 26 #[.pointer (some ⟨r, 0, none⟩), pkVal p] w fun e w' => e = .returned (.tuple #[pcV pc0, .int .i64 2]) ∧ Below w.heap.size w w' := by
  have HJ := Lib.hid h
  have VAL := Lib.hid (fun w => rvalid_any p hs w)
  rw [decide_eq_false ho] at VAL
  clear h
  go_enter Try.func26, Try.ntmps26
  go_wp2_with (first
    | (refine wpList_newT rfl (.box 23 (.tmp 1)) rfl (some 3) rfl #[.bool p.cmd, .int .i64 p.ap, .int .i64 p.fl, .int .i64 p.ct, .string p.da] 23 (fun X => .pointer (some ⟨X, 0, none⟩)) 5 (pkCel p) (pk_cells p) (box_pk rfl rfl) ?_; intro X w1 HX Sw1 CX1 Bw1 YX1)
    | (refine wpList_newT rfl (.alloc 52) rfl (some 4) rfl #[.bool false, .string ⟨#[]⟩, .int .i64 0, .bool false] 52 (fun X => .pointer (some ⟨X, 0, none⟩)) 4 (pcC false ⟨#[]⟩ 0 false) (pc_cells false ⟨#[]⟩ 0 false) (alloc_piece rfl) ?_; intro R w2 HR Sw2 CR2 Bw2 YR2; have CX2 := Lib.hid (CX1.out.below Bw2.out); have YX2 := Lib.hid (YX1.out.below Bw2.out); have B2 := Lib.hid (bt Bw1.out Bw2.out); have HJ2 := Lib.hid ((HJ.out.below Bw1.out).below Bw2.out))
    | (refine wpList_getAll rfl 23 (.tmp 3) rfl X 5 [.bool p.cmd, .int .i64 p.ap, .int .i64 p.fl, .int .i64 p.ct, .string p.da] _ _ CX2.out rfl (pk_list p) rfl Try.underlying23 rfl pk_info ?_))
  (refine (VAL.out _).mono ?_)
  rintro e w3 ⟨rfl, h3⟩
  have CX3 := Lib.hid (CX2.out.below h3)
  have CR3 := Lib.hid (CR2.out.below h3)
  have BL := Lib.hid (bt B2.out h3)
  have LR := Lib.hid (show w.heap.size ≤ R by have := HR.out; have := Bw1.out.size; omega)
  have x31 : w3.cell? ⟨X, 1, none⟩ = some (.int .i64 p.ap) := CX3.out.cell (j := 1) (by omega)
  clear h3
  go_wp2_with (refine wpList_setAll rfl 52 (.tmp 4) (.tmp 13) rfl R 4 [.bool false, .string ⟨#[]⟩, .int .i64 0, .bool false] _ (pcC false ⟨#[]⟩ 0 false) CR3.out rfl (pc_list _ _ _ _) rfl rfl pc_info (by simp [Value.oneCell']) ?_; intro w9 C9 V9 S9)
  have RA := C9.out.rangeAll [.bool false, .string ⟨#[]⟩, .int .i64 0, .bool false] rfl (pc_list _ _ _ _)
  have RR := fun tmps hp => results_cell_t1 (P := Try.prog) Try.results26 tmps w9 R [.bool false, .string ⟨#[]⟩, .int .i64 0, .bool false] _ hp RA Try.underlying52 rfl pc_info
  refine bodyPost_ret (RR _ rfl) rfl ?_
  exact ⟨by rw [pcV0]; rfl, But.under BL.out V9.out LR.out⟩
set_option maxHeartbeats 4000000 in
theorem rfeed_idle {w : World} {n0 r n : Nat} {sv : Value} {f : Nat → Rk} (h : RJ w n0 r sv f n) (p : Pkt) (hs : p.da.size ≤ 1000000000) (ho : Pk.Ok p) (hi : p.ap = 2047) : Calls Try.prog 26 #[.pointer (some ⟨r, 0, none⟩), pkVal p] w fun e w' => e = .returned (.tuple #[pcV pc0, .int .i64 0]) ∧ Below w.heap.size w w' := by
  have HJ := Lib.hid h
  have VAL := Lib.hid (fun w => rvalid_any p hs w)
  rw [decide_eq_true ho] at VAL
  have t1 : (p.ap == 2047) = true := by simpa using hi
  clear h hi
  go_enter Try.func26, Try.ntmps26
  go_wp2_with (first
    | (refine wpList_newT rfl (.box 23 (.tmp 1)) rfl (some 3) rfl #[.bool p.cmd, .int .i64 p.ap, .int .i64 p.fl, .int .i64 p.ct, .string p.da] 23 (fun X => .pointer (some ⟨X, 0, none⟩)) 5 (pkCel p) (pk_cells p) (box_pk rfl rfl) ?_; intro X w1 HX Sw1 CX1 Bw1 YX1)
    | (refine wpList_newT rfl (.alloc 52) rfl (some 4) rfl #[.bool false, .string ⟨#[]⟩, .int .i64 0, .bool false] 52 (fun X => .pointer (some ⟨X, 0, none⟩)) 4 (pcC false ⟨#[]⟩ 0 false) (pc_cells false ⟨#[]⟩ 0 false) (alloc_piece rfl) ?_; intro R w2 HR Sw2 CR2 Bw2 YR2; have CX2 := Lib.hid (CX1.out.below Bw2.out); have YX2 := Lib.hid (YX1.out.below Bw2.out); have B2 := Lib.hid (bt Bw1.out Bw2.out); have HJ2 := Lib.hid ((HJ.out.below Bw1.out).below Bw2.out))
    | (refine wpList_getAll rfl 23 (.tmp 3) rfl X 5 [.bool p.cmd, .int .i64 p.ap, .int .i64 p.fl, .int .i64 p.ct, .string p.da] _ _ CX2.out rfl (pk_list p) rfl Try.underlying23 rfl pk_info ?_))
  (refine (VAL.out _).mono ?_)
  rintro e w3 ⟨rfl, h3⟩
  have CX3 := Lib.hid (CX2.out.below h3)
  have CR3 := Lib.hid (CR2.out.below h3)
  have BL := Lib.hid (bt B2.out h3)
  have LR := Lib.hid (show w.heap.size ≤ R by have := HR.out; have := Bw1.out.size; omega)
  have x31 : w3.cell? ⟨X, 1, none⟩ = some (.int .i64 p.ap) := CX3.out.cell (j := 1) (by omega)
  clear h3
  go_wp2_with (refine wpList_setAll rfl 52 (.tmp 4) (.tmp 17) rfl R 4 [.bool false, .string ⟨#[]⟩, .int .i64 0, .bool false] _ (pcC false ⟨#[]⟩ 0 false) CR3.out rfl (pc_list _ _ _ _) rfl rfl pc_info (by simp [Value.oneCell']) ?_; intro w9 C9 V9 S9)
  have RA := C9.out.rangeAll [.bool false, .string ⟨#[]⟩, .int .i64 0, .bool false] rfl (pc_list _ _ _ _)
  have RR := fun tmps hp => results_cell_t1 (P := Try.prog) Try.results26 tmps w9 R [.bool false, .string ⟨#[]⟩, .int .i64 0, .bool false] _ hp RA Try.underlying52 rfl pc_info
  refine bodyPost_ret (RR _ rfl) rfl ?_
  exact ⟨by rw [pcV0]; rfl, But.under BL.out V9.out LR.out⟩
theorem at_some {w : World} {n0 r n : Nat} {sv : Value} {f : Nat → Rk} (h : RJ w n0 r sv f n) (hn0 : n0 ≤ w.heap.size) (hn : n ≤ 10000) (hb : ∀ k, k < n → RkOk (f k)) (ap : Int) :
    Calls Try.prog 45 #[.pointer (some ⟨r, 0, none⟩), .int .i64 ap] w fun e w' => ∃ (i : Nat) (fr : Bool) (sv5 : Value) (f5 : Nat → Rk) (n5 : Nat), e = .returned (.tuple #[.int .i64 (i : Nat), .bool fr]) ∧ i < n5 ∧ RJ w' n0 r sv5 f5 n5 ∧ Kp n0 [83, 47] false w w' ∧ RkOk (f5 i) ∧ n5 ≤ n + 1 ∧ ((fr = false ∧ n5 = n ∧ f5 = f ∧ (f i).ap = ap) ∨ (fr = true ∧ i = n ∧ n5 = n + 1 ∧ f5 = updN f n ⟨ap, 0, false, ⟨#[]⟩⟩ ∧ ∀ k, k < n → (f k).ap ≠ ap)) := by
  refine (at_any h hn0 hn ap).mono ?_
  rintro e w' (⟨i, hi, ha, rfl, rfl⟩ | ⟨hne, rfl, sv', hJ, hk⟩)
  · exact ⟨i, false, sv, f, n, rfl, hi, h, Kp.refl _ _ _ _, hb i hi, by omega, .inl ⟨rfl, rfl, rfl, ha⟩⟩
  · exact ⟨n, true, sv', _, n + 1, rfl, by omega, hJ, hk, by rw [updN_same]; exact ⟨by simp, by simp⟩, by omega, .inr ⟨rfl, rfl, rfl, rfl, hne⟩⟩
/-- What Feed of a valid packet that is not idle leaves. -/
def RfP (w : World) (n0 r n : Nat) (f : Nat → Rk) (p : Pkt) (e : Ending) (w' : World) : Prop := ∃ (i : Nat) (fr : Bool) (sv' : Value) (n' : Nat) (q : Rk), ((fr = false ∧ n' = n ∧ i < n ∧ q = f i ∧ q.ap = p.ap) ∨ (fr = true ∧ i = n ∧ n' = n + 1 ∧ q = ⟨p.ap, 0, false, ⟨#[]⟩⟩ ∧ ∀ k, k < n → (f k).ap ≠ p.ap)) ∧ e = .returned (.tuple #[pcV (rkStep q fr p).2, .int .i64 0]) ∧ RJ w' n0 r sv' (updN f i (rkStep q fr p).1) n' ∧ Kp n0 [83, 47] false w w'
set_option maxHeartbeats 16000000 in
theorem rfeed_ok {w : World} {n0 r n : Nat} {sv : Value} {f : Nat → Rk} (h : RJ w n0 r sv f n) (hn0 : n0 ≤ w.heap.size) (hn : n ≤ 10000) (hb : ∀ k, k < n → RkOk (f k)) (p : Pkt) (ho : Pk.Ok p) (hi : p.ap ≠ 2047) : Calls Try.prog 26 #[.pointer (some ⟨r, 0, none⟩), pkVal p] w (RfP w n0 r n f p) := by
  have hs : p.da.size ≤ 1000000000 := by have := ho.2.2.2.2; omega
  have HJ := Lib.hid h
  have VAL := Lib.hid (fun w => rvalid_any p hs w)
  rw [decide_eq_true ho] at VAL
  have t1 : (p.ap == 2047) = false := by simpa using hi
  have ATS := Lib.hid (fun W (hw : Below w.heap.size w W) => at_some (HJ.out.below hw) (Nat.le_trans hn0 hw.size) hn hb p.ap)
  have HN0 := Lib.hid hn0
  have HRW := Lib.hid h.ty.lt
  have HO := Lib.hid ho
  clear h hi hb hn0 ho
  go_enter Try.func26, Try.ntmps26
  go_wp2_with (first
    | (refine wpList_newT rfl (.box 23 (.tmp 1)) rfl (some 3) rfl #[.bool p.cmd, .int .i64 p.ap, .int .i64 p.fl, .int .i64 p.ct, .string p.da] 23 (fun X => .pointer (some ⟨X, 0, none⟩)) 5 (pkCel p) (pk_cells p) (box_pk rfl rfl) ?_; intro X w1 HX Sw1 CX1 Bw1 YX1)
    | (refine wpList_newT rfl (.alloc 52) rfl (some 4) rfl #[.bool false, .string ⟨#[]⟩, .int .i64 0, .bool false] 52 (fun X => .pointer (some ⟨X, 0, none⟩)) 4 (pcC false ⟨#[]⟩ 0 false) (pc_cells false ⟨#[]⟩ 0 false) (alloc_piece rfl) ?_; intro R w2 HR Sw2 CR2 Bw2 YR2; have CX2 := Lib.hid (CX1.out.below Bw2.out); have YX2 := Lib.hid (YX1.out.below Bw2.out); have B2 := Lib.hid (bt Bw1.out Bw2.out); have HJ2 := Lib.hid ((HJ.out.below Bw1.out).below Bw2.out))
    | (refine wpList_getAll rfl 23 (.tmp 3) rfl X 5 [.bool p.cmd, .int .i64 p.ap, .int .i64 p.fl, .int .i64 p.ct, .string p.da] _ _ CX2.out rfl (pk_list p) rfl Try.underlying23 rfl pk_info ?_))
  (refine (VAL.out _).mono ?_)
  rintro e w3 ⟨rfl, h3⟩
  have CX3 := Lib.hid (CX2.out.below h3)
  have CR3 := Lib.hid (CR2.out.below h3)
  have BL := Lib.hid (bt B2.out h3)
  have LR := Lib.hid (show w.heap.size ≤ R by have := HR.out; have := Bw1.out.size; omega)
  have x31 : w3.cell? ⟨X, 1, none⟩ = some (.int .i64 p.ap) := CX3.out.cell (j := 1) (by omega)
  go_wp2_with fail
  (refine (ATS.out _ BL.out).mono ?_)
  rintro e w5 ⟨i, fr, sv5, f5, n5, rfl, hi5, hJ5, hK5, hok, hn5, hcase⟩
  obtain ⟨sa5, cap, rfl⟩ := own_is hJ5.row
  obtain ⟨G, rfl, hG0, hGT⟩ := row_some hJ5.row (by omega)
  have J5 := Lib.hid hJ5
  have LI := Lib.hid hi5
  have K5 := Lib.hid ((Kp.of_below BL.out HN0.out).trans hK5)
  have CASE := Lib.hid hcase
  have CX5 := Lib.hid (CX3.out.of_block (hK5.cells X _ _ _ (YX2.out.below h3).choose_spec.choose_spec (by decide)))
  have CR5 := Lib.hid (CR3.out.of_block (hK5.cells R _ _ _ (YR2.out.below h3).choose_spec.choose_spec (by decide)))
  have YX5 := Lib.hid ((YX2.out.below h3).of_block (hK5.cells X _ _ _ (YX2.out.below h3).choose_spec.choose_spec (by decide)))
  have YR5 := Lib.hid ((YR2.out.below h3).of_block (hK5.cells R _ _ _ (YR2.out.below h3).choose_spec.choose_spec (by decide)))
  have YG5 := Lib.hid hGT
  have c05 : w5.cell? ⟨r, 0, none⟩ = some (.slice (some ⟨G, 0, none⟩) n5 cap) := hJ5.cr.cell (j := 0) (by omega)
  have L5 := Lib.hid (show w.heap.size ≤ w5.heap.size from Nat.le_trans BL.out.size hK5.below.size)
  have LRX := Lib.hid (show R ≠ X by have := HR.out; have := Sw1.out; omega)
  obtain ⟨q, hq⟩ : ∃ q, f5 i = q := ⟨_, rfl⟩
  have HQ := Lib.hid hq
  rw [hq] at hok
  have OK := Lib.hid hok
  have i0 : (0 : Int) ≤ (i : Int) := by omega
  have i1 : (i : Int) < (n5 : Int) := by omega
  have n5s : n5 ≤ 10001 := by omega
  obtain ⟨mi, hmi⟩ : ∃ mi, rkMi q fr p = mi := ⟨_, rfl⟩
  have MI := Lib.hid hmi
  obtain ⟨nx2, hnx2⟩ : ∃ x, (p.ct + 1) % 16384 = x := ⟨_, rfl⟩
  have NX2 := Lib.hid hnx2
  obtain ⟨br, hbr⟩ : ∃ br, rkBr q fr p = br := ⟨_, rfl⟩
  have BR := Lib.hid hbr
  obtain ⟨op1, hop1⟩ : ∃ b, rkOp q fr p = b := ⟨_, rfl⟩
  have OP1 := Lib.hid hop1
  have FINAL := Lib.hid (show ∀ (w' : World) (x : Rk) (y : Pk.Pc), rkStep q fr p = (x, y) → RJ w' n0 r (.slice (some ⟨G, 0, none⟩) n5 cap) (updN f5 i x) n5 → Kp n0 [83, 47] false w w' → RfP w n0 r n f p (.returned (.tuple #[pcV y, .int .i64 0])) w' from fun w' x y hst hJ hk => by
    rcases CASE.out with ⟨rfl, rfl, rfl, ha⟩ | ⟨rfl, rfl, rfl, rfl, hne⟩
    · exact ⟨i, false, _, _, q, .inl ⟨rfl, rfl, LI.out, HQ.out.symm, by rw [← HQ.out]; exact ha⟩, by rw [hst], by rw [hst]; exact hJ, hk⟩
    · have hq0 : q = ⟨p.ap, 0, false, ⟨#[]⟩⟩ := by rw [← HQ.out, updN_same]
      exact ⟨i, true, _, _, q, .inr ⟨rfl, rfl, rfl, hq0, hne⟩, by rw [hst], by rw [hst]; rw [updN_updN] at hJ; exact hJ, hk⟩)
  clear h3 hJ5 hK5 hcase hGT hq hmi hnx2 hbr hop1 hok
  go_upto_if 32 with (refine wpList_newT rfl (.alloc 52) rfl (some 9) rfl #[.bool false, .string ⟨#[]⟩, .int .i64 0, .bool false] 52 (fun X => .pointer (some ⟨X, 0, none⟩)) 4 (pcC false ⟨#[]⟩ 0 false) (pc_cells false ⟨#[]⟩ 0 false) (alloc_piece rfl) ?_; intro O w7 HO7 Sw7 CO7 Bw7 YO7)
  have YX7 := YX5.out.below Bw7.out
  have YR7 := YR5.out.below Bw7.out
  have YG7 := YG5.out.below Bw7.out
  have Q0 := Lib.hid (show FW w w5 n0 r X R O G n5 cap p (updN f5 i q) (pcC false ⟨#[]⟩ 0 false) w7 from
    ⟨CX5.out.below Bw7.out, CR5.out.below Bw7.out, CO7.out, by rw [← HQ.out, updN_id]; exact own_below J5.out.row Bw7.out, Buts.of_below Bw7.out,
      ⟨ty_ne YG7 YX7 (by decide), ty_ne YG7 YR7 (by decide), ty_ne YG7 YO7.out (by decide)⟩, ⟨ty_ne YX7 YO7.out (by decide), by have := HO7.out; have := YR5.out.lt; omega, ty_ne YX7 YR7 (by decide)⟩, ty_ne (J5.out.ty.below Bw7.out) YG7 (by decide), by have := L5.out; have := HO7.out; omega, LR.out⟩)
  clear YX7 YR7 YG7
  go_cut [5] from 33 (fun a wx => a = .int .i64 0 ∧ FW w w5 n0 r X R O G n5 cap p (updN f5 i q) (pcC false ⟨#[]⟩ mi false) wx)
  case first =>
    cases fr with
    | false =>
      have hc := HO.out.2.2.1
      have hx := OK.out.1
      obtain ⟨d1, hd1⟩ : ∃ d, p.ct - q.nx = d := ⟨_, rfl⟩
      obtain ⟨d2, hd2⟩ : ∃ d, d1 + 16384 = d := ⟨_, rfl⟩
      have hm2 : d2 % 16384 = mi := by rw [← hd2, ← hd1, ← MI.out]; unfold rkMi; rw [if_neg (by simp)]
      go_wp2_with fail
      go_upto_region 9 with fail
      refine rmRegion X G O i p.ct q.nx d1 d2 mi Q0.out.cx.1 (own_block_lt Q0.out.row rfl) (Q0.out.cx.cell (j := 3) (by omega)) (by have := rk_cell Q0.out.row LI.out 1 (by decide); rwa [updN_same] at this) (by rw [IntKind.wrap_i64]; omega) (by rw [IntKind.wrap_i64]; omega) (by rw [Int.tmod_eq_emod_of_nonneg (by omega)]; exact hm2) (by rw [IntKind.wrap_i64]; omega) (by kernel_rfl) rfl rfl rfl rfl rfl rfl rfl rfl rfl rfl rfl rfl rfl rfl ?_
      intro w8 h8
      have Q1 := Lib.hid (Q0.out.below h8)
      simp only [Act.put, List.setIfInBounds_toArray, List.set_cons_succ, List.set_cons_zero, List.drop_succ_cons, List.drop_zero]
      clear h8 hc hx hd1 hd2 hm2
      go_wp2_with (refine wpList_set rfl _ rfl O 2 4 (.int .i64 mi) _ (pcC false ⟨#[]⟩ mi false) Q1.out.co (by omega) (fun j hj => by match j, hj with | 0, _ => rfl | 1, _ => rfl | 2, _ => rfl | 3, _ => rfl) (store_int rfl rfl rfl (Q1.out.co.cell (j := 2) (by omega)) (Q1.out.co.frozen (j := 2) (by omega))) ?_; intro v9 Cv9 Uv9 Sv9; have Fv9 := Lib.hid (Q1.out.setO Uv9.out Cv9.out))
      go_meet
      case rel => exact ⟨rfl, Fv9.out⟩
    | true =>
      have hm : mi = 0 := by rw [← MI.out]; rfl
      subst hm
      go_wp2_with fail
      go_meet
      case rel => exact ⟨rfl, Q0.out⟩
  case rest =>
    obtain ⟨rfl, hQ2⟩ := hcut
    rename World => w10
    have Q2 := Lib.hid hQ2
    clear hQ2 Q0
    have hc := HO.out.2.2.1
    have z1 : IntKind.i64.wrap (p.ct + 1) = p.ct + 1 := by rw [IntKind.wrap_i64]; omega
    have z2 : (p.ct + 1).tmod 16384 = nx2 := by rw [Int.tmod_eq_emod_of_nonneg (by omega)]; exact NX2.out
    have z3 : IntKind.i64.wrap nx2 = nx2 := by have := NX2.out; rw [IntKind.wrap_i64]; omega
    have xx3 : w10.cell? ⟨X, 3, none⟩ = some (.int .i64 p.ct) := Q2.out.cx.cell (j := 3) (by omega)
    clear hc
    go_upto_region 11 with (refine wpList_setRow rfl G n5 cap n0 i 1 _ (.int .i64 nx2) ⟨q.ap, nx2, q.op, q.tx⟩ Q2.out.row LI.out (by decide) (fun r hr => by rw [updN_same]; match r, hr with | 0, _ => rfl | 1, _ => rfl | 2, _ => rfl | 3, _ => rfl) (store_int rfl rfl rfl (rk_cell Q2.out.row LI.out 1 (by decide)) (Q2.out.row.frozenAt _)) ?_; intro v1 Rv1 Uv1 Sv1; have Fv1 := Lib.hid (Q2.out.setG Uv1.out (show v1.ownsRow n0 83 4 (.slice (some ⟨G, 0, none⟩) n5 cap) n5 (rkL (updN f5 i ⟨q.ap, nx2, q.op, q.tx⟩) n5) by have := Rv1.out; rwa [updN_updN] at this)))
    have g2 : v1.cell? ⟨G, i * 4 + 2, none⟩ = some (.bool q.op) := by have := rk_cell Fv1.out.row LI.out 2 (by decide); rwa [updN_same] at this
    have xx2 : v1.cell? ⟨X, 2, none⟩ = some (.int .i64 p.fl) := Fv1.out.cx.cell (j := 2) (by omega)
    have o2 : v1.cell? ⟨O, 2, none⟩ = some (.int .i64 mi) := Fv1.out.co.cell (j := 2) (by omega)
    clear z1 z2 z3 xx3
    simp only [Act.put]
    go_cut [68] from 33 (fun a wx => a = .bool br ∧ wx = v1)
    case first =>
      have hbr := BR.out
      unfold rkBr at hbr
      rw [MI.out] at hbr
      obtain ⟨ob, hob⟩ : ∃ ob, q.op = ob := ⟨_, rfl⟩
      rw [hob] at hbr g2
      cases ob with
      | false =>
        obtain rfl : false = br := by simpa using hbr
        clear hbr
        go_wp2_with fail
        go_meet
        case rel => exact ⟨rfl, rfl⟩
      | true =>
        by_cases m0 : mi = 0
        · have u1 : (mi != 0) = false := by simpa using m0
          by_cases f1 : p.fl = 1
          · have u2 : (p.fl == 1) = true := by simpa using f1
            obtain rfl : true = br := by rw [← hbr, decide_eq_true f1]; simp
            clear hbr m0 f1
            go_wp2_with fail
            go_meet
            case rel => exact ⟨rfl, rfl⟩
          · have u2 : (p.fl == 1) = false := by simpa using f1
            by_cases f3 : p.fl = 3
            · have u3 : (p.fl == 3) = true := by simpa using f3
              obtain rfl : true = br := by rw [← hbr, decide_eq_true f3]; simp
              clear hbr m0 f1 f3
              go_wp2_with fail
              go_meet
              case rel => exact ⟨rfl, rfl⟩
            · have u3 : (p.fl == 3) = false := by simpa using f3
              obtain rfl : false = br := by rw [← hbr, decide_eq_false f3, decide_eq_false f1, decide_eq_false (not_not_intro m0)]; rfl
              clear hbr m0 f1 f3
              go_wp2_with fail
              go_meet
              case rel => exact ⟨rfl, rfl⟩
        · have u1 : (mi != 0) = true := by simpa using m0
          obtain rfl : true = br := by rw [← hbr, decide_eq_true m0]; simp
          clear hbr m0
          go_wp2_with fail
          go_meet
          case rel => exact ⟨rfl, rfl⟩
    case rest =>
      obtain ⟨rfl, rfl⟩ := hcut
      rename World => v1
      clear g2 xx2 o2
      go_upto_if 68 with fail
      go_cut [5] from 33 (fun a wx => a = .int .i64 0 ∧ FW w w5 n0 r X R O G n5 cap p (updN f5 i ⟨q.ap, nx2, op1, q.tx⟩) (pcC false ⟨#[]⟩ mi br) wx)
      case first =>
        cases br with
        | true =>
          obtain rfl : false = op1 := by rw [← OP1.out]; unfold rkOp; rw [BR.out]; rfl
          go_wp2_with (first
            | (refine wpList_setRow rfl G n5 cap n0 i 2 _ (.bool false) ⟨q.ap, nx2, false, q.tx⟩ Fv1.out.row LI.out (by decide) (fun r hr => by rw [updN_same]; match r, hr with | 0, _ => rfl | 1, _ => rfl | 2, _ => rfl | 3, _ => rfl) (store_bool rfl rfl rfl (rk_cell Fv1.out.row LI.out 2 (by decide)) (Fv1.out.row.frozenAt _)) ?_; intro v2 Rv2 Uv2 Sv2; have Fv2 := Lib.hid (Fv1.out.setG Uv2.out (show v2.ownsRow n0 83 4 (.slice (some ⟨G, 0, none⟩) n5 cap) n5 (rkL (updN f5 i ⟨q.ap, nx2, false, q.tx⟩) n5) by have := Rv2.out; rwa [updN_updN] at this)))
            | (refine wpList_set rfl _ rfl O 3 4 (.bool true) _ (pcC false ⟨#[]⟩ mi true) Fv2.out.co (by omega) (fun j hj => by match j, hj with | 0, _ => rfl | 1, _ => rfl | 2, _ => rfl | 3, _ => rfl) (store_bool rfl rfl rfl (Fv2.out.co.cell (j := 3) (by omega)) (Fv2.out.co.frozen (j := 3) (by omega))) ?_; intro v3 Cv3 Uv3 Sv3; have Fv3 := Lib.hid (Fv2.out.setO Uv3.out Cv3.out)))
          go_meet
          case rel => exact ⟨rfl, Fv3.out⟩
        | false =>
          have e1 : q.op = op1 := by rw [← OP1.out]; unfold rkOp; rw [BR.out]; rfl
          have Fv2 := Lib.hid (show FW w w5 n0 r X R O G n5 cap p (updN f5 i ⟨q.ap, nx2, op1, q.tx⟩) (pcC false ⟨#[]⟩ mi false) v1 by rw [← e1]; exact Fv1.out)
          clear e1
          go_wp2_with fail
          go_meet
          case rel => exact ⟨rfl, Fv2.out⟩
      case rest =>
        obtain ⟨rfl, hQ3⟩ := hcut
        rename World => w12
        have Q3 := Lib.hid hQ3
        clear hQ3 Fv1 Q2
        have DSZ := HO.out.2.2.2.2
        have xx2 : w12.cell? ⟨X, 2, none⟩ = some (.int .i64 p.fl) := Q3.out.cx.cell (j := 2) (by omega)
        have g2 : w12.cell? ⟨G, i * 4 + 2, none⟩ = some (.bool op1) := by have := rk_cell Q3.out.row LI.out 2 (by decide); rwa [updN_same] at this
        have g3 : w12.cell? ⟨G, i * 4 + 3, none⟩ = some (.string q.tx) := by have := rk_cell Q3.out.row LI.out 3 (by decide); rwa [updN_same] at this
        obtain ⟨x1, hx1⟩ : ∃ x1, (rkStep q fr p).1 = x1 := ⟨_, rfl⟩
        obtain ⟨y1, hy1⟩ : ∃ y1, (rkStep q fr p).2 = y1 := ⟨_, rfl⟩
        have ST0 := Lib.hid (show rkStep q fr p = (x1, y1) by rw [← hx1, ← hy1])
        clear hx1 hy1
        go_upto_block 0 with fail
        go_cut [5] from 33 (fun a wx => a = .int .i64 0 ∧ FW w w5 n0 r X R O G n5 cap p (updN f5 i x1) (pcC y1.whole (bs y1.msg) y1.missed y1.broken) wx)
        case first =>
          by_cases f3 : p.fl = 3
          · have u3 : (p.fl == 3) = true := by simpa using f3
            have F3 := Lib.hid f3
            clear f3
            go_upto_region 23 with fail
            refine rwRegion X G O n0 n5 cap i f5 ⟨q.ap, nx2, op1, q.tx⟩ mi br p.da Q3.out.cx.1 (Ne.symm Q3.out.ne.1.1) Q3.out.ne.2.1.1 Q3.out.ne.1.2.2 LI.out (Q3.out.cx.cell (j := 4) (by omega)) Q3.out.row Q3.out.co (by kernel_rfl) rfl rfl rfl rfl rfl rfl rfl rfl rfl rfl ?_
            intro v4 U4 R4 C4
            have F4 := Lib.hid (Q3.out.both U4 R4 C4)
            clear U4 R4 C4
            simp only [Act.put, List.setIfInBounds_toArray, List.set_cons_succ, List.set_cons_zero]
            have E := Lib.hid (Prod.mk.inj (ST0.out.symm.trans (show rkStep q fr p = (⟨q.ap, nx2, op1, q.tx⟩, ⟨true, p.da.data.toList, mi, br⟩) from by
              unfold rkStep
              rw [if_pos F3.out, NX2.out, OP1.out, MI.out, BR.out])))
            go_wp2_with fail
            go_meet
            case rel => exact ⟨rfl, by rw [E.out.1, E.out.2]; show FW w w5 n0 r X R O G n5 cap p _ (pcC true (bs p.da.data.toList) mi br) v4; rw [bs_self]; exact F4.out⟩
          · have u3 : (p.fl == 3) = false := by simpa using f3
            by_cases f1 : p.fl = 1
            · have u1 : (p.fl == 1) = true := by simpa using f1
              have F3 := Lib.hid f3
              have F1 := Lib.hid f1
              clear f3 f1
              go_upto_region 25 with fail
              refine roRegion X G O n0 n5 cap i f5 ⟨q.ap, nx2, op1, q.tx⟩ mi br p.da Q3.out.cx.1 (Ne.symm Q3.out.ne.1.1) Q3.out.ne.2.1.1 Q3.out.ne.1.2.2 LI.out (Q3.out.cx.cell (j := 4) (by omega)) Q3.out.row Q3.out.co (by kernel_rfl) rfl rfl rfl rfl rfl rfl rfl rfl rfl rfl rfl rfl rfl rfl ?_
              intro v4 U4 R4 C4
              have F4 := Lib.hid (Q3.out.both U4 R4 C4)
              clear U4 R4 C4
              simp only [Act.put, List.setIfInBounds_toArray, List.set_cons_succ, List.set_cons_zero]
              have E := Lib.hid (Prod.mk.inj (ST0.out.symm.trans (show rkStep q fr p = (⟨q.ap, nx2, true, p.da⟩, ⟨false, [], mi, br⟩) from by
                unfold rkStep
                rw [if_neg F3.out, if_pos F1.out, NX2.out, MI.out, BR.out])))
              go_wp2_with fail
              go_meet
              case rel => exact ⟨rfl, by rw [E.out.1, E.out.2]; show FW w w5 n0 r X R O G n5 cap p _ (pcC false (bs []) mi br) v4; exact F4.out⟩
            · have u1 : (p.fl == 1) = false := by simpa using f1
              have F3 := Lib.hid f3
              have F1 := Lib.hid f1
              clear f3 f1
              cases op1 with
              | false =>
                have E := Lib.hid (Prod.mk.inj (ST0.out.symm.trans (show rkStep q fr p = (⟨q.ap, nx2, false, q.tx⟩, ⟨false, [], mi, br⟩) from by
                  unfold rkStep
                  rw [if_neg F3.out, if_neg F1.out, if_pos OP1.out, NX2.out, MI.out, BR.out])))
                go_wp2_with fail
                go_meet
                case rel => exact ⟨rfl, by rw [E.out.1, E.out.2]; show FW w w5 n0 r X R O G n5 cap p _ (pcC false (bs []) mi br) w12; exact Q3.out⟩
              | true =>
                have TSZ : q.tx.size ≤ 16384 := OK.out.2 (by have := OP1.out; unfold rkOp at this; split at this; exact absurd this (by simp); exact this)
                obtain ⟨t2, ht2⟩ : ∃ t2, q.tx ++ p.da = t2 := ⟨_, rfl⟩
                obtain ⟨m2, hm2⟩ : ∃ m2, t2.size = m2 := ⟨_, rfl⟩
                have m2l : m2 ≤ 20000 := by rw [← hm2, ← ht2, ByteArray.size_append]; omega
                have T2 := Lib.hid ht2
                have MM := Lib.hid hm2
                go_upto_region 16 with fail
                refine rtRegion X G i q.tx p.da Q3.out.cx.1 (own_block_lt Q3.out.row rfl) (Q3.out.cx.cell (j := 4) (by omega)) g3 (by omega) (by kernel_rfl) rfl rfl rfl rfl rfl rfl rfl rfl rfl rfl rfl rfl rfl ?_
                intro v4 h4
                have F4 := Lib.hid (Q3.out.below h4)
                rw [ht2]
                clear h4 xx2 g2 g3 ht2 TSZ DSZ
                simp only [Act.put, List.setIfInBounds_toArray, List.set_cons_succ, List.set_cons_zero, List.drop_succ_cons, List.drop_zero]
                go_upto_region 17 with (refine wpList_setRow rfl G n5 cap n0 i 3 _ (.string t2) ⟨q.ap, nx2, true, t2⟩ F4.out.row LI.out (by decide) (fun r hr => by rw [updN_same]; match r, hr with | 0, _ => rfl | 1, _ => rfl | 2, _ => rfl | 3, _ => rfl) (store_str rfl rfl rfl (rk_cell F4.out.row LI.out 3 (by decide)) (F4.out.row.frozenAt _)) ?_; intro v5 Rv5 Uv5 Sv5; have Fv5 := Lib.hid (F4.out.setG Uv5.out (show v5.ownsRow n0 83 4 (.slice (some ⟨G, 0, none⟩) n5 cap) n5 (rkL (updN f5 i ⟨q.ap, nx2, true, t2⟩) n5) by have := Rv5.out; rwa [updN_updN] at this)))
                have g3 : v5.cell? ⟨G, i * 4 + 3, none⟩ = some (.string t2) := by have := rk_cell Fv5.out.row LI.out 3 (by decide); rwa [updN_same] at this
                have xx2 : v5.cell? ⟨X, 2, none⟩ = some (.int .i64 p.fl) := Fv5.out.cx.cell (j := 2) (by omega)
                by_cases l : 16384 < m2
                · have u5 : decide (16384 < (m2 : Int)) = true := decide_eq_true (by omega)
                  have u5n : decide (16384 < m2) = true := decide_eq_true l
                  have LL := Lib.hid (show 16384 < (q.tx ++ p.da).size by rw [T2.out, MM.out]; exact l)
                  clear l
                  go_wp2_with (first
                    | (refine wpList_setRow rfl G n5 cap n0 i 2 _ (.bool false) ⟨q.ap, nx2, false, t2⟩ Fv5.out.row LI.out (by decide) (fun r hr => by rw [updN_same]; match r, hr with | 0, _ => rfl | 1, _ => rfl | 2, _ => rfl | 3, _ => rfl) (store_bool rfl rfl rfl (rk_cell Fv5.out.row LI.out 2 (by decide)) (Fv5.out.row.frozenAt _)) ?_; intro v6 Rv6 Uv6 Sv6; have Fv6 := Lib.hid (Fv5.out.setG Uv6.out (show v6.ownsRow n0 83 4 (.slice (some ⟨G, 0, none⟩) n5 cap) n5 (rkL (updN f5 i ⟨q.ap, nx2, false, t2⟩) n5) by have := Rv6.out; rwa [updN_updN] at this)))
                    | (refine wpList_set rfl _ rfl O 3 4 (.bool true) _ (pcC false ⟨#[]⟩ mi true) Fv6.out.co (by omega) (fun j hj => by match j, hj with | 0, _ => rfl | 1, _ => rfl | 2, _ => rfl | 3, _ => rfl) (store_bool rfl rfl rfl (Fv6.out.co.cell (j := 3) (by omega)) (Fv6.out.co.frozen (j := 3) (by omega))) ?_; intro v7 Cv7 Uv7 Sv7; have Fv7 := Lib.hid (Fv6.out.setO Uv7.out Cv7.out)))
                  have E := Lib.hid (Prod.mk.inj (ST0.out.symm.trans (show rkStep q fr p = (⟨q.ap, nx2, false, t2⟩, ⟨false, [], mi, true⟩) from by
                    unfold rkStep
                    rw [if_neg F3.out, if_neg F1.out, if_neg (by rw [OP1.out]; simp), if_pos LL.out, NX2.out, MI.out, T2.out])))
                  go_wp2_with fail
                  go_meet
                  case rel => exact ⟨rfl, by rw [E.out.1, E.out.2]; show FW w w5 n0 r X R O G n5 cap p _ (pcC false (bs []) mi true) v7; exact Fv7.out⟩
                · have u5 : decide (16384 < (m2 : Int)) = false := decide_eq_false (by omega)
                  have u5n : decide (16384 < m2) = false := decide_eq_false l
                  have LL := Lib.hid (show ¬ 16384 < (q.tx ++ p.da).size by rw [T2.out, MM.out]; exact l)
                  clear l
                  by_cases f2 : p.fl = 2
                  · have u2 : (p.fl == 2) = true := by simpa using f2
                    have F2 := Lib.hid f2
                    clear f2
                    go_upto_region 21 with fail
                    refine rlRegion X G O n0 n5 cap i f5 ⟨q.ap, nx2, true, t2⟩ mi br p.da Fv5.out.cx.1 (Ne.symm Fv5.out.ne.1.1) Fv5.out.ne.2.1.1 Fv5.out.ne.1.2.2 LI.out Fv5.out.row Fv5.out.co (by kernel_rfl) rfl rfl rfl rfl rfl rfl rfl rfl rfl rfl rfl rfl rfl rfl rfl rfl ?_
                    intro v6 U6 R6 C6
                    have F6 := Lib.hid (Fv5.out.both U6 R6 C6)
                    clear U6 R6 C6
                    simp only [Act.put, List.setIfInBounds_toArray, List.set_cons_succ, List.set_cons_zero]
                    have E := Lib.hid (Prod.mk.inj (ST0.out.symm.trans (show rkStep q fr p = (⟨q.ap, nx2, false, t2⟩, ⟨true, t2.data.toList, mi, br⟩) from by
                      unfold rkStep
                      rw [if_neg F3.out, if_neg F1.out, if_neg (by rw [OP1.out]; simp), if_neg LL.out, if_pos F2.out, NX2.out, MI.out, BR.out, T2.out])))
                    go_wp2_with fail
                    go_meet
                    case rel => exact ⟨rfl, by rw [E.out.1, E.out.2]; show FW w w5 n0 r X R O G n5 cap p _ (pcC true (bs t2.data.toList) mi br) v6; rw [bs_self]; exact F6.out⟩
                  · have u2 : (p.fl == 2) = false := by simpa using f2
                    have F2 := Lib.hid f2
                    clear f2
                    have E := Lib.hid (Prod.mk.inj (ST0.out.symm.trans (show rkStep q fr p = (⟨q.ap, nx2, true, t2⟩, ⟨false, [], mi, br⟩) from by
                      unfold rkStep
                      rw [if_neg F3.out, if_neg F1.out, if_neg (by rw [OP1.out]; simp), if_neg LL.out, if_neg F2.out, NX2.out, MI.out, BR.out, T2.out])))
                    go_wp2_with fail
                    go_meet
                    case rel => exact ⟨rfl, by rw [E.out.1, E.out.2]; show FW w w5 n0 r X R O G n5 cap p _ (pcC false (bs []) mi br) v5; exact Fv5.out⟩
        case rest =>
          obtain ⟨rfl, hQ9⟩ := hcut
          rename World => w13
          have Q9 := Lib.hid hQ9
          clear hQ9 Q3
          go_wp2_with (first
            | (with_reducible refine atList ?_; refine wpList_getAll rfl 52 (.tmp 9) rfl O 4 [.bool y1.whole, .string (bs y1.msg), .int .i64 y1.missed, .bool y1.broken] _ _ Q9.out.co rfl (pc_list _ _ _ _) rfl Try.underlying52 rfl pc_info ?_)
            | (with_reducible refine atList ?_; refine wpList_setAll rfl 52 (.tmp 4) (.tmp 128) rfl R 4 [.bool y1.whole, .string (bs y1.msg), .int .i64 y1.missed, .bool y1.broken] _ (pcC y1.whole (bs y1.msg) y1.missed y1.broken) Q9.out.cr rfl (pc_list _ _ _ _) rfl rfl pc_info (by simp [Value.oneCell']) ?_; intro we Ce Ve Se))
          have RA := Ce.out.rangeAll [.bool y1.whole, .string (bs y1.msg), .int .i64 y1.missed, .bool y1.broken] rfl (pc_list _ _ _ _)
          have RR := fun tmps hp => results_cell_t1 (P := Try.prog) Try.results26 tmps we R [.bool y1.whole, .string (bs y1.msg), .int .i64 y1.missed, .bool y1.broken] _ hp RA Try.underlying52 rfl pc_info
          refine bodyPost_ret (RR _ rfl) rfl ?_
          have FF := Q9.out.fin J5.out HRW.out K5.out HN0.out L5.out Ve.out
          have EE := FINAL.out we x1 y1 ST0.out FF.1 FF.2
          exact EE
end Go.Proofs.Ytphkaambodecdaa
