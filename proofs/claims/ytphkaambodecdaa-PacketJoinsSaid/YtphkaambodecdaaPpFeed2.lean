/- Layer 9, the landed program: Feed of what is not joined, Feed in the document's words, Open. -/
import Derived.Test.YtphkaambodecdaaPpFeed
namespace Go.Proofs.Ytphkaambodecdaa
open Go.RowKit
set_option linter.unusedVariables false
set_option maxRecDepth 100000

theorem pcV0 : pcV pc0 = .agg #[.bool false, .string ⟨#[]⟩, .int .i64 0, .bool false] := rfl
theorem pfeed_nil (p : Pkt) (w : World) : Calls Try.prog 25 #[.pointer none, pkVal p] w fun e w' => e = .returned (.tuple #[pcV pc0, .int .i64 1]) ∧ Below w.heap.size w w' := by
  have MD := Lib.hid (fun w => made_nil w)
  go_enter Try.func25, Try.ntmps25
  go_wp2_with (first
    | (refine wpList_new rfl (.box 23 (.tmp 1)) rfl (some 3) rfl #[.bool p.cmd, .int .i64 p.ap, .int .i64 p.fl, .int .i64 p.ct, .string p.da] 23 (fun X => .pointer (some ⟨X, 0, none⟩)) 5 (pkCel p) (pk_cells p) (box_pk rfl rfl) ?_; intro X w1 HX Sw1 CX1 Bw1; have B1 := Bw1)
    | (refine wpList_new rfl (.alloc 52) rfl (some 4) rfl #[.bool false, .string ⟨#[]⟩, .int .i64 0, .bool false] 52 (fun X => .pointer (some ⟨X, 0, none⟩)) 4 (pcC false ⟨#[]⟩ 0 false) (pc_cells false ⟨#[]⟩ 0 false) (alloc_piece rfl) ?_; intro R w2 HR Sw2 CR2 Bw2; have CX2 := Lib.hid (CX1.out.below Bw2.out); have B2 := Lib.hid (bt Bw1.out Bw2.out)))
  (with_reducible refine (MD.out _).mono ?_)
  rintro e w' ⟨rfl, rfl⟩
  have LR := Lib.hid (show w.heap.size ≤ R by have := HR.out; have := B1.out.size; omega)
  have BL := B2
  go_wp2_with (refine wpList_setAll rfl 52 (.tmp 4) (.tmp 12) rfl R 4 [.bool false, .string ⟨#[]⟩, .int .i64 0, .bool false] _ (pcC false ⟨#[]⟩ 0 false) CR2.out rfl (pc_list _ _ _ _) rfl rfl pc_info (by simp [Value.oneCell']) ?_; intro w9 C9 V9 S9)
  have RA := C9.out.rangeAll [.bool false, .string ⟨#[]⟩, .int .i64 0, .bool false] rfl (pc_list _ _ _ _)
  have RR := fun tmps hp => results_cell_t1 (P := Try.prog) Try.results25 tmps w9 R [.bool false, .string ⟨#[]⟩, .int .i64 0, .bool false] _ hp RA Try.underlying52 rfl pc_info
  refine bodyPost_ret (RR _ rfl) rfl ?_
  exact ⟨by rw [pcV0]; rfl, But.under BL.out V9.out LR.out⟩
theorem pfeed_zero (j : Nat) (p : Pkt) (w : World) (c0 : w.cell? ⟨j, 0, none⟩ = some (.pointer none)) : Calls Try.prog 25 #[.pointer (some ⟨j, 0, none⟩), pkVal p] w fun e w' => e = .returned (.tuple #[pcV pc0, .int .i64 1]) ∧ Below w.heap.size w w' := by
  have C0 := Lib.hid c0
  have lj : j < w.heap.size := by
    apply Nat.lt_of_not_le
    intro h
    have := Array.getElem?_eq_none h
    simp [World.cell?, this] at c0
  clear c0
  go_enter Try.func25, Try.ntmps25
  go_wp2_with (first
    | (refine wpList_new rfl (.box 23 (.tmp 1)) rfl (some 3) rfl #[.bool p.cmd, .int .i64 p.ap, .int .i64 p.fl, .int .i64 p.ct, .string p.da] 23 (fun X => .pointer (some ⟨X, 0, none⟩)) 5 (pkCel p) (pk_cells p) (box_pk rfl rfl) ?_; intro X w1 HX Sw1 CX1 Bw1; have B1 := Bw1)
    | (refine wpList_new rfl (.alloc 52) rfl (some 4) rfl #[.bool false, .string ⟨#[]⟩, .int .i64 0, .bool false] 52 (fun X => .pointer (some ⟨X, 0, none⟩)) 4 (pcC false ⟨#[]⟩ 0 false) (pc_cells false ⟨#[]⟩ 0 false) (alloc_piece rfl) ?_; intro R w2 HR Sw2 CR2 Bw2; have CX2 := Lib.hid (CX1.out.below Bw2.out); have B2 := Lib.hid (bt Bw1.out Bw2.out)))
  (with_reducible refine (made_none j _ ((B2.out.cell (p := ⟨j, 0, none⟩) lj).trans C0.out)).mono ?_)
  rintro e w' ⟨rfl, rfl⟩
  have LR := Lib.hid (show w.heap.size ≤ R by have := HR.out; have := B1.out.size; omega)
  have BL := B2
  go_wp2_with (refine wpList_setAll rfl 52 (.tmp 4) (.tmp 12) rfl R 4 [.bool false, .string ⟨#[]⟩, .int .i64 0, .bool false] _ (pcC false ⟨#[]⟩ 0 false) CR2.out rfl (pc_list _ _ _ _) rfl rfl pc_info (by simp [Value.oneCell']) ?_; intro w9 C9 V9 S9)
  have RA := C9.out.rangeAll [.bool false, .string ⟨#[]⟩, .int .i64 0, .bool false] rfl (pc_list _ _ _ _)
  have RR := fun tmps hp => results_cell_t1 (P := Try.prog) Try.results25 tmps w9 R [.bool false, .string ⟨#[]⟩, .int .i64 0, .bool false] _ hp RA Try.underlying52 rfl pc_info
  refine bodyPost_ret (RR _ rfl) rfl ?_
  exact ⟨by rw [pcV0]; rfl, But.under BL.out V9.out LR.out⟩
set_option maxHeartbeats 4000000 in
theorem pfeed_bad {w : World} {n0 j m cnt : Nat} {F : Int → Option Pk.St} {D : DataW Value} {S : Int → Value} (h : PJ w n0 j m cnt F D S) (p : Pkt) (hs : p.da.size ≤ maxLen) (ho : ¬ Pk.Ok p) : Calls Try.prog 25 #[.pointer (some ⟨j, 0, none⟩), pkVal p] w fun e w' => e = .returned (.tuple #[pcV pc0, .int .i64 2]) ∧ Below w.heap.size w w' := by
  have HJ := Lib.hid h
  have VAL := Lib.hid (fun w => pvalid_any p hs w)
  rw [decide_eq_false ho] at VAL
  clear h
  go_enter Try.func25, Try.ntmps25
  go_wp2_with (first
    | (refine wpList_new rfl (.box 23 (.tmp 1)) rfl (some 3) rfl #[.bool p.cmd, .int .i64 p.ap, .int .i64 p.fl, .int .i64 p.ct, .string p.da] 23 (fun X => .pointer (some ⟨X, 0, none⟩)) 5 (pkCel p) (pk_cells p) (box_pk rfl rfl) ?_; intro X w1 HX Sw1 CX1 Bw1; have B1 := Bw1)
    | (refine wpList_new rfl (.alloc 52) rfl (some 4) rfl #[.bool false, .string ⟨#[]⟩, .int .i64 0, .bool false] 52 (fun X => .pointer (some ⟨X, 0, none⟩)) 4 (pcC false ⟨#[]⟩ 0 false) (pc_cells false ⟨#[]⟩ 0 false) (alloc_piece rfl) ?_; intro R w2 HR Sw2 CR2 Bw2; have CX2 := Lib.hid (CX1.out.below Bw2.out); have B2 := Lib.hid (bt Bw1.out Bw2.out); have J2 := Lib.hid ((HJ.out.below Bw1.out).below Bw2.out); have c02 := J2.out.c0))
  (with_reducible refine (made_yes j _ c02).mono ?_)
  rintro e w' ⟨rfl, rfl⟩
  go_wp2_with (refine wpList_getAll rfl 23 (.tmp 3) rfl X 5 [.bool p.cmd, .int .i64 p.ap, .int .i64 p.fl, .int .i64 p.ct, .string p.da] _ _ CX2.out rfl (pk_list p) rfl Try.underlying23 rfl pk_info ?_)
  (refine (VAL.out _).mono ?_)
  rintro e w3 ⟨rfl, h3⟩
  have CX3 := Lib.hid (CX2.out.below h3)
  have CR3 := Lib.hid (CR2.out.below h3)
  have BL := Lib.hid (bt B2.out h3)
  have LR := Lib.hid (show w.heap.size ≤ R by have := HR.out; have := B1.out.size; omega)
  have x31 : w3.cell? ⟨X, 1, none⟩ = some (.int .i64 p.ap) := CX3.out.cell (j := 1) (by omega)
  clear h3 c02
  go_wp2_with (refine wpList_setAll rfl 52 (.tmp 4) (.tmp 16) rfl R 4 [.bool false, .string ⟨#[]⟩, .int .i64 0, .bool false] _ (pcC false ⟨#[]⟩ 0 false) CR3.out rfl (pc_list _ _ _ _) rfl rfl pc_info (by simp [Value.oneCell']) ?_; intro w9 C9 V9 S9)
  have RA := C9.out.rangeAll [.bool false, .string ⟨#[]⟩, .int .i64 0, .bool false] rfl (pc_list _ _ _ _)
  have RR := fun tmps hp => results_cell_t1 (P := Try.prog) Try.results25 tmps w9 R [.bool false, .string ⟨#[]⟩, .int .i64 0, .bool false] _ hp RA Try.underlying52 rfl pc_info
  refine bodyPost_ret (RR _ rfl) rfl ?_
  exact ⟨by rw [pcV0]; rfl, But.under BL.out V9.out LR.out⟩
set_option maxHeartbeats 4000000 in
theorem pfeed_idle {w : World} {n0 j m cnt : Nat} {F : Int → Option Pk.St} {D : DataW Value} {S : Int → Value} (h : PJ w n0 j m cnt F D S) (p : Pkt) (hs : p.da.size ≤ maxLen) (ho : Pk.Ok p) (hi : p.ap = 2047) : Calls Try.prog 25 #[.pointer (some ⟨j, 0, none⟩), pkVal p] w fun e w' => e = .returned (.tuple #[pcV pc0, .int .i64 0]) ∧ Below w.heap.size w w' := by
  have HJ := Lib.hid h
  have VAL := Lib.hid (fun w => pvalid_any p hs w)
  rw [decide_eq_true ho] at VAL
  have t1 : (p.ap == 2047) = true := by simpa using hi
  clear hi
  clear h
  go_enter Try.func25, Try.ntmps25
  go_wp2_with (first
    | (refine wpList_new rfl (.box 23 (.tmp 1)) rfl (some 3) rfl #[.bool p.cmd, .int .i64 p.ap, .int .i64 p.fl, .int .i64 p.ct, .string p.da] 23 (fun X => .pointer (some ⟨X, 0, none⟩)) 5 (pkCel p) (pk_cells p) (box_pk rfl rfl) ?_; intro X w1 HX Sw1 CX1 Bw1; have B1 := Bw1)
    | (refine wpList_new rfl (.alloc 52) rfl (some 4) rfl #[.bool false, .string ⟨#[]⟩, .int .i64 0, .bool false] 52 (fun X => .pointer (some ⟨X, 0, none⟩)) 4 (pcC false ⟨#[]⟩ 0 false) (pc_cells false ⟨#[]⟩ 0 false) (alloc_piece rfl) ?_; intro R w2 HR Sw2 CR2 Bw2; have CX2 := Lib.hid (CX1.out.below Bw2.out); have B2 := Lib.hid (bt Bw1.out Bw2.out); have J2 := Lib.hid ((HJ.out.below Bw1.out).below Bw2.out); have c02 := J2.out.c0))
  (with_reducible refine (made_yes j _ c02).mono ?_)
  rintro e w' ⟨rfl, rfl⟩
  go_wp2_with (refine wpList_getAll rfl 23 (.tmp 3) rfl X 5 [.bool p.cmd, .int .i64 p.ap, .int .i64 p.fl, .int .i64 p.ct, .string p.da] _ _ CX2.out rfl (pk_list p) rfl Try.underlying23 rfl pk_info ?_)
  (refine (VAL.out _).mono ?_)
  rintro e w3 ⟨rfl, h3⟩
  have CX3 := Lib.hid (CX2.out.below h3)
  have CR3 := Lib.hid (CR2.out.below h3)
  have BL := Lib.hid (bt B2.out h3)
  have LR := Lib.hid (show w.heap.size ≤ R by have := HR.out; have := B1.out.size; omega)
  have x31 : w3.cell? ⟨X, 1, none⟩ = some (.int .i64 p.ap) := CX3.out.cell (j := 1) (by omega)
  clear h3 c02
  go_wp2_with (refine wpList_setAll rfl 52 (.tmp 4) (.tmp 20) rfl R 4 [.bool false, .string ⟨#[]⟩, .int .i64 0, .bool false] _ (pcC false ⟨#[]⟩ 0 false) CR3.out rfl (pc_list _ _ _ _) rfl rfl pc_info (by simp [Value.oneCell']) ?_; intro w9 C9 V9 S9)
  have RA := C9.out.rangeAll [.bool false, .string ⟨#[]⟩, .int .i64 0, .bool false] rfl (pc_list _ _ _ _)
  have RR := fun tmps hp => results_cell_t1 (P := Try.prog) Try.results25 tmps w9 R [.bool false, .string ⟨#[]⟩, .int .i64 0, .bool false] _ hp RA Try.underlying52 rfl pc_info
  refine bodyPost_ret (RR _ rfl) rfl ?_
  exact ⟨by rw [pcV0]; rfl, But.under BL.out V9.out LR.out⟩
/-- Feed, in the document's words. -/
theorem pfeed_ok {w : World} {n0 j m cnt : Nat} {F : Int → Option Pk.St} {D : DataW Value} {S : Int → Value} (h : PJ w n0 j m cnt F D S) (hn0 : n0 ≤ w.heap.size) (hcnt : cnt < 1000000) (p : Pkt) (ho : Pk.Ok p) (hi : p.ap ≠ 2047) :
    Calls Try.prog 25 #[.pointer (some ⟨j, 0, none⟩), pkVal p] w fun e w' => ∃ D' S', e = .returned (.tuple #[pcV (Pk.feed (F p.ap) p).2, .int .i64 0]) ∧ PJ w' n0 j m (cnt + 1) (upd F p.ap (some (Pk.feed (F p.ap) p).1)) D' S' ∧ Kp n0 [5] true w w' := by
  have hL := h.look (a := p.ap) ho.1
  cases hF : F p.ap with
  | none =>
    have e := Pk.feed_add (s := none) ho (by simp [Pk.opn])
    rw [show Pk.txt none = [] from rfl, show Pk.mis none p = 0 from rfl] at e
    rw [e]
    unfold PJ.val at hL
    rw [hF] at hL
    exact pfeed_new h hn0 hcnt p ho hi 0 none 0 0 [] 0 hL (Txt.nil _ _) rfl (by omega) (fun b hb hn k hk => by cases hk) rfl
  | some st =>
    obtain ⟨h1, h2, h3, h4, h5, ⟨sa, n, c, hS, hn, hl⟩, hT⟩ := h.elt p.ap st hF
    have e := Pk.feed_add (s := some st) ho h3
    rw [e]
    unfold PJ.val at hL
    rw [hF] at hL
    simp only [Option.isSome_some] at hL
    rw [hS] at hL hT
    exact pfeed_seen h hn0 hcnt p ho hi st.next sa n c _ _ hL hT hn.symm hl (fun b hb hne k hk => h.apart p.ap b (by rw [hF]; rfl) hb (fun e => hne e.symm) k (by rw [hS]; exact hk)) h2 rfl
/-- How many messages are open. -/
def opens (F : Int → Option Pk.St) : Nat := ((List.range 2047).filter fun (a : Nat) => (Pk.opn (F (a : Int))).isSome).length
/-- .. of those that have come up. -/
def opensL (F : Int → Option Pk.St) (left : Lit → Bool) : Nat := ((List.range 2047).filter fun (a : Nat) => (Pk.opn (F (a : Int))).isSome && !left (.int .i64 (a : Int))).length
theorem filter_one_more {f g : Nat → Bool} {x : Nat} (n : Nat) (hx : x < n) (h1 : f x = false) (h2 : g x = true) (h : ∀ a, a ≠ x → g a = f a) : ((List.range n).filter g).length = ((List.range n).filter f).length + 1 := by
  induction n with
  | zero => omega
  | succ n ih =>
    rw [List.range_succ, List.filter_append, List.filter_append, List.length_append, List.length_append]
    by_cases e : x = n
    · subst e
      have : (List.range x).filter g = (List.range x).filter f := List.filter_congr (fun a ha => h a (by have := List.mem_range.1 ha; omega))
      rw [this]
      simp [h1, h2]
    · have e2 : List.filter g [n] = List.filter f [n] := List.filter_congr (fun a ha => h a (by simp at ha; omega))
      rw [ih (by omega), e2]
      omega
theorem grown_of_below {w w' : World} (h : Below w.heap.size w w') : w.grownBy w' none := ⟨h.os, h.tape, h.output, h.size, fun i hi _ => h.block i hi⟩
theorem grown_of_but {w w' : World} {X : Nat} (h : But X w w') : w.grownBy w' (some X) := ⟨h.below.os, h.below.tape, h.below.output, h.below.size, fun i hi hne => h.rest i hi (fun e => hne (by rw [e]))⟩
theorem opensL_le (F : Int → Option Pk.St) (left : Lit → Bool) : opensL F left ≤ 2047 := by
  have := List.length_filter_le (fun (a : Nat) => (Pk.opn (F (a : Int))).isSome && !left (.int .i64 (a : Int))) (List.range 2047)
  rw [List.length_range] at this
  exact this
theorem opensL_start (F : Int → Option Pk.St) (left : Lit → Bool) (h : ∀ a : Nat, (F (a : Int)).isSome = true → left (.int .i64 (a : Int)) = true) : opensL F left = 0 := by
  unfold opensL
  rw [List.length_eq_zero_iff, List.filter_eq_nil_iff]
  intro a _
  cases e : F (a : Int) with
  | none => simp [Pk.opn]
  | some st => simp [h a (by rw [e]; rfl)]
theorem opensL_end (F : Int → Option Pk.St) (left : Lit → Bool) (h : ∀ kl, left kl = false) : opensL F left = opens F := by
  unfold opensL opens
  congr 2
  funext a
  simp [h]
theorem opensL_step (F : Int → Option Pk.St) (left : Lit → Bool) (x : Nat) (hx : x < 2047) (hl : left (.int .i64 (x : Int)) = true) : opensL F (fun z => left z && !z.sameKey (.int .i64 (x : Int))) = opensL F left + (if (Pk.opn (F (x : Int))).isSome = true then 1 else 0) := by
  by_cases ho : (Pk.opn (F (x : Int))).isSome = true
  · rw [if_pos ho]
    unfold opensL
    refine filter_one_more 2047 hx (by simp [hl]) (by simp [ho, Lit.sameKey]) (fun a ha => ?_)
    have : ((Lit.int .i64 (a : Int)).sameKey (.int .i64 (x : Int))) = false := by simp [Lit.sameKey]; omega
    simp [this]
  · rw [if_neg ho]
    unfold opensL
    congr 1
    refine List.filter_congr (fun a _ => ?_)
    by_cases e : a = x
    · subst e
      have : (Pk.opn (F (a : Int))).isSome = false := by simpa using ho
      simp [this]
    · have : ((Lit.int .i64 (a : Int)).sameKey (.int .i64 (x : Int))) = false := by simp [Lit.sameKey]; omega
      simp [this]
theorem popen_nil (w : World) : Calls Try.prog 27 #[.pointer none] w fun e w' => e = .returned (.int .i64 0) ∧ Below w.heap.size w w' := by
  have MD := Lib.hid (fun w => made_nil w)
  go_enter Try.func27, Try.ntmps27
  go_wp2_with fail
  (with_reducible refine (MD.out _).mono ?_)
  rintro e w' ⟨rfl, rfl⟩
  go_wp2_with fail
  go_ret
  exact ⟨rfl, Below.refl _ _⟩
theorem popen_zero (j : Nat) (w : World) (c0 : w.cell? ⟨j, 0, none⟩ = some (.pointer none)) : Calls Try.prog 27 #[.pointer (some ⟨j, 0, none⟩)] w fun e w' => e = .returned (.int .i64 0) ∧ Below w.heap.size w w' := by
  have MD := Lib.hid (made_none j w c0)
  clear c0
  go_enter Try.func27, Try.ntmps27
  go_wp2_with fail
  (with_reducible refine MD.out.mono ?_)
  rintro e w' ⟨rfl, rfl⟩
  go_wp2_with fail
  go_ret
  exact ⟨rfl, Below.refl _ _⟩
def mkI (x : Int) : Value := .int .i64 x
def mkV (q : Int × Option Addr × Nat × Nat) : Value := knV q.1 (.slice q.2.1 q.2.2.1 q.2.2.2)
theorem open_is {w : World} {n0 j m cnt : Nat} {F : Int → Option Pk.St} {D : DataW Value} {S : Int → Value} (h : PJ w n0 j m cnt F D S) {kl : Lit} {q : Int × Option Addr × Nat × Nat} {y : DataW Value × List MemPlace} (hR : knR (mkV q) = some y) (ha : ∀ zd, D.atKey kl zd = y.1) :
    ∃ x : Nat, kl = .int .i64 (x : Int) ∧ x < 2047 ∧ (Pk.opn (F (x : Int))).isSome = decide (0 < q.2.2.1) := by
  obtain ⟨_, rfl⟩ := knR_inv hR
  have hh := Maps.has_true_of_atKey ha
  obtain ⟨a, rfl, hs⟩ := h.key kl hh
  obtain ⟨st, e⟩ := Option.isSome_iff_exists.1 hs
  obtain ⟨h1, h2, h3, h4, h5, ⟨sa, n, c, hS, hn, hl⟩, hT⟩ := h.elt a st e
  obtain ⟨x, rfl⟩ := Int.eq_ofNat_of_zero_le h1.1
  refine ⟨x, rfl, by omega, ?_⟩
  have h6 := (h5 .nil).symm.trans (ha .nil)
  simp only [DataW.held.injEq] at h6
  rw [hS] at h6
  unfold mkV knV at h6
  simp only [Value.agg.injEq, Array.mk.injEq, List.cons.injEq, Value.slice.injEq] at h6
  have h7 : n = q.2.2.1 := by
    obtain ⟨_, ⟨_, h8, _⟩, _⟩ := h6
    exact h8
  rw [← h7, hn, e]
  have ho := Pk.txt_op (s := some st) h3
  rw [ho]
  unfold Pk.toOp
  by_cases g : Pk.txt (some st) = []
  · rw [if_pos g, g]
    rfl
  · rw [if_neg g]
    have : 0 < (Pk.txt (some st)).length := List.length_pos_iff.2 g
    simp [this]
set_option maxHeartbeats 8000000 in
theorem popen_any {w : World} {n0 j m cnt : Nat} {F : Int → Option Pk.St} {D : DataW Value} {S : Int → Value} (h : PJ w n0 j m cnt F D S) (hcnt : cnt ≤ 1000000) :
    Calls Try.prog 27 #[.pointer (some ⟨j, 0, none⟩)] w fun e w' => e = .returned (.int .i64 (opens F : Nat)) ∧ Below w.heap.size w w' := by
  have HJ := Lib.hid h
  have MD := Lib.hid (made_yes j w h.c0)
  have c1 := h.c1
  clear h
  go_enter Try.func27, Try.ntmps27
  go_wp2_with fail
  (with_reducible refine MD.out.mono ?_)
  rintro e w' ⟨rfl, rfl⟩
  obtain ⟨r, hr⟩ : ∃ r, w.heap.size = r := ⟨_, rfl⟩
  have OW := Lib.hid HJ.out.own
  have HR := Lib.hid hr
  clear hr
  go_wp2_with (at_range; refine wpList_range_own _ rfl _ 48 rfl 3 75 keyLaw Try.underlying48 knR m cnt D rfl OW.out ?_; intro w0 hrg0 hg0 hs0; have RG0 := Lib.hid hrg0; have G0 := Lib.hid hg0; clear hrg0 hg0 hs0)
  go_frame
  rw [HR.out] at RG0
  rw [HR.out]
  go_loopw [3] (fun v wr => ∃ left cn, wr.ranges Try.prog 3 knR m r cnt D left cn ∧ v = .int .i64 (opensL F left : Nat) ∧ Below w.heap.size w wr) (fun _ wr => wr.rangeLeft m r)
  case atStart =>
    refine ⟨_, _, RG0.out, ?_, (Below.refl _ _).grown G0.out (Nat.le_refl _) (fun k e => by cases e)⟩
    rw [opensL_start F (Maps.has D) (fun a ha => by
      obtain ⟨st, e⟩ := Option.isSome_iff_exists.1 ha
      exact (HJ.out.elt _ st e).2.2.2.1)]
    rfl
  case round =>
    obtain ⟨left, cn, hrg, rfl, hB⟩ := hrel
    have HRG := Lib.hid hrg
    have HB := Lib.hid hB
    have LE := opensL_le F left
    obtain ⟨N, hN⟩ : ∃ N, opensL F left = N := ⟨_, rfl⟩
    rw [hN] at LE ⊢
    have HN := Lib.hid hN
    clear hrg hB hN
    go_wp2_with (at_next; refine wpList_next_ranges _ rfl _ rfl 3 keyLaw knR mkI mkV (fun key kl hk => by obtain ⟨x, hx, _⟩ := Maps.keyOf_int_inv Try.underlying3 hk; exact ⟨x, hx⟩) (fun v y hv => by obtain ⟨⟨x, a, n, c, hx⟩, _⟩ := knR_inv hv; exact ⟨(x, a, n, c), hx⟩) m r cnt D left cn rfl HRG.out ?_ ?_)
    · intro hc0 hl0
      have E := Lib.hid (show opens F = N by rw [← opensL_end F left hl0]; exact HN.out)
      go_wp2_with fail
      go_ret
      exact ⟨by rw [E.out]; rfl, HB.out⟩
    · intro x qx qa qn qc kl y1 y2 w1 cn1 hk hlk hRv hat hrg1 hlt hg1 hs1 hen
      obtain ⟨z, rfl, hz, hop⟩ := open_is (q := (qx, qa, qn, qc)) (y := (y1, y2)) HJ.out hRv hat
      simp only at hop
      obtain ⟨b, hb⟩ : ∃ b, decide (0 < qn) = b := ⟨_, rfl⟩
      rw [hb] at hop
      have ST := Lib.hid (opensL_step F left z hz hlk)
      rw [hop, HN.out] at ST
      have RG1 := Lib.hid hrg1
      have G1 := Lib.hid hg1
      have LT := Lib.hid hlt
      have HBB := Lib.hid hb
      clear hk hlk hRv hat hrg1 hlt hg1 hs1 hop hb
      go_wp2_with (first
        | (refine wpList_new rfl (.alloc 75) rfl (some 5) rfl #[.int .i64 0, .slice none 0 0] 75 (fun X => .pointer (some ⟨X, 0, none⟩)) 2 (knC 0 (.slice none 0 0)) (kn_cells 0 (.slice none 0 0)) (alloc_known rfl) ?_; intro G w2 HG Sw2 CG Bw2)
        | (refine wpList_setAll rfl 75 (.tmp 5) (.tmp 17) rfl G 2 [.int .i64 qx, .slice qa qn qc] _ (knC qx (.slice qa qn qc)) CG.out rfl (kn_list _ _) rfl rfl kn_info (by simp [Value.oneCell']) ?_; intro w3 C3 V3 S3))
      have RG3 := Lib.hid (show w3.ranges Try.prog 3 knR m r cnt D (fun z2 => left z2 && !z2.sameKey (.int .i64 (z : Int))) cn1 from (RG1.out.kept (grown_of_below Bw2.out) (by simp) (by simp)).kept (grown_of_but V3.out) (fun e => by have := Option.some.inj e; have := RG1.out.owns.lt; have := HG.out; omega) (fun e => by have := Option.some.inj e; have := RG1.out.lt; have := HG.out; omega))
      have B3 := Lib.hid (show Below w.heap.size w w3 from But.under (bt (HB.out.grown G1.out HB.out.size (fun k e => by have := Option.some.inj e; have := HR.out; omega)) Bw2.out) V3.out (by have := HG.out; have := G1.out.size; have := HB.out.size; omega))
      (with_reducible refine (kopen_any G qx qa qn qc b HBB.out _ C3.out).mono ?_)
      rintro e w' ⟨rfl, rfl⟩
      cases b with
      | true =>
        have ST2 := Lib.hid (show opensL F (fun z2 => left z2 && !z2.sameKey (.int .i64 (z : Int))) = N + 1 from ST.out)
        go_wp2_with fail
        go_roundw
        case rel => exact ⟨_, cn1, RG3.out, by rw [ST2.out]; go_num, B3.out⟩
        case measure => rw [RG3.out.left_eq, HRG.out.left_eq]; exact LT.out
      | false =>
        have ST2 := Lib.hid (show opensL F (fun z2 => left z2 && !z2.sameKey (.int .i64 (z : Int))) = N from ST.out)
        go_wp2_with fail
        go_roundw
        case rel => exact ⟨_, cn1, RG3.out, by rw [ST2.out], B3.out⟩
        case measure => rw [RG3.out.left_eq, HRG.out.left_eq]; exact LT.out
end Go.Proofs.Ytphkaambodecdaa
