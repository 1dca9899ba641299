/- ChShares -/
import Derived.ProofKit
import Derived.Test.YtchfkncbemjepaaGreatChShS
/- ChannelsShares: if enough waits in all eight channels of a mux of layer 11, which have one priority, each run of as many frames as the sum of the shares contains exactly its share of each channel, for every input. -/
namespace Go.Proofs.YtchfkncbemjepaaGreat
open Go.ChangeShapes Go.WideShapes Go.ChangeAt Go.RowKit
set_option linter.unusedVariables false

namespace channelsShares
def p8 (g : Nat → Nat) : Nat → Nat
  | 0 => 0
  | k + 1 => p8 g k + g k
theorem p8_le {g : Nat → Nat} (h : ∀ i, i < 8 → g i ≤ 6) : ∀ k, k ≤ 8 → p8 g k ≤ 6 * k
  | 0, _ => Nat.le_refl _
  | k + 1, hk => by
    have := p8_le h k (by omega)
    have := h k (by omega)
    show p8 g k + g k ≤ _
    omega
theorem p8_all (g : Nat → Nat) : p8 g 8 = Ch.s8 g := by
  unfold Ch.s8
  simp [p8]
def gs (f : Nat → Int) (i : Nat) : Nat := 1 + (f i % 6).toNat
theorem gs_le (f : Nat → Int) (i : Nat) : 1 ≤ gs f i ∧ gs f i ≤ 6 := by unfold gs; omega
theorem eqIn8 (f : Nat → Int) (w : World) : (Op.equalIn 10000 22 (arr8 f) (arr8 f)).run Tryz.prog w = .ok true w := by
  have hi : ∃ i, Tryz.prog.info? 3 = some i := Option.isSome_iff_exists.1 (by kernel_rfl)
  obtain ⟨i, hi⟩ := hi
  rw [run_equalIn_array w 9999 _ _ Tryz.underlying22 hi, cells_i1]
  have r8 : List.range 8 = [0, 1, 2, 3, 4, 5, 6, 7] := rfl
  rw [r8]
  have E : ∀ b : Int, (Op.equalIn 9999 3 (.int .i64 b) (.int .i64 b)).run Tryz.prog w = .ok true w := fun b => by
    rw [run_equalIn_int w 9998 _ .i64 .i64 b b Tryz.underlying3]; simp
  simp [Op.eqItems, part, E]
/-- While the shares are laid. -/
structure Sh1 (w wr : World) (f : Nat → Int) (F P S k : Nat) : Prop where
  b : Below w.heap.size w wr
  cf : Cel wr F 8 (cel8 f)
  cp : Cel wr P 8 (cel8 (fun _ => 0))
  cs : Cel wr S 8 (cel8 (fun j => if j < k then (gs f j : Nat) else 0))
  tp : TyB wr P 22
  ts : TyB wr S 22
  d : w.heap.size ≤ F ∧ w.heap.size ≤ P ∧ w.heap.size ≤ S ∧ F ≠ S ∧ P ≠ S
/-- Between two runs. -/
structure ShR (w wr : World) (n5 n6 M D : Nat) (X : Nat → Nat) (S : Nat) (g : Nat → Nat) : Prop where
  st : ∃ x y, MDs w.heap.size w wr n5 n6 M D X x y ∧ Ch.Run x g (fun _ => 0) 0 ∧ (∀ i, i < 8 → x.pr i = 0) ∧ x.n = 32
  ts : TyB wr S 22
  cs : Cel wr S 8 (cel8 (fun j => (g j : Nat)))
  d : w.heap.size ≤ S
/-- Within a run, the first c channels being full. -/
structure ShX (w wr : World) (n5 n6 M D : Nat) (X : Nat → Nat) (S Y : Nat) (g : Nat → Nat) (j c : Nat) (x : Ch.Mx) (y : Ch.Dx) (many : Nat → Nat) : Prop where
  m : MDs w.heap.size w wr n5 n6 M D X x y
  rn : Ch.Run x g many j
  pz : ∀ i, i < 8 → x.pr i = 0
  en : x.n = 32
  cy : Cel wr Y 8 (cel8 (fun i => (many i : Nat)))
  fw : ∀ i, i < c → 32 ≤ x.wt i
  ts : TyB wr S 22
  cs : Cel wr S 8 (cel8 (fun j => (g j : Nat)))
  ty : TyB wr Y 22
  d : w.heap.size ≤ S
  d2 : w.heap.size ≤ Y
  ne : S ≠ Y
def ShJ (w wr : World) (n5 n6 M D : Nat) (X : Nat → Nat) (S Y : Nat) (g : Nat → Nat) (j c : Nat) : Prop := ∃ x y many, ShX w wr n5 n6 M D X S Y g j c x y many
/-- Behind a frame, which is not counted yet. -/
structure ShZ (w wr : World) (n5 n6 M D : Nat) (X : Nat → Nat) (S Y : Nat) (g : Nat → Nat) (j c : Nat) (many : Nat → Nat) : Prop where
  st : ∃ x y, MDs w.heap.size w wr n5 n6 M D X x y ∧ Ch.Run x g (Ch.upd many c (many c + 1)) (j + 1) ∧ (∀ i, i < 8 → x.pr i = 0) ∧ x.n = 32
  cy : Cel wr Y 8 (cel8 (fun i => (many i : Nat)))
  ts : TyB wr S 22
  cs : Cel wr S 8 (cel8 (fun j => (g j : Nat)))
  ty : TyB wr Y 22
  d : w.heap.size ≤ S
  d2 : w.heap.size ≤ Y
  ne : S ≠ Y
section
variable {w wr w' : World} {n5 n6 M D : Nat} {X : Nat → Nat} {S Y : Nat} {g : Nat → Nat} {j c : Nat} {x : Ch.Mx} {y : Ch.Dx} {many : Nat → Nat}
theorem ShX.below (h : ShX w wr n5 n6 M D X S Y g j c x y many) (hb : Below wr.heap.size wr w') : ShX w w' n5 n6 M D X S Y g j c x y many :=
  ⟨h.m.below hb, h.rn, h.pz, h.en, h.cy.below hb, h.fw, h.ts.below hb, h.cs.below hb, h.ty.below hb, h.d, h.d2, h.ne⟩
theorem ShZ.below (h : ShZ w wr n5 n6 M D X S Y g j c many) (hb : Below wr.heap.size wr w') : ShZ w w' n5 n6 M D X S Y g j c many := by
  obtain ⟨⟨x, y, m, r⟩, cy, ts, cs, ty, d, d2, ne⟩ := h
  exact ⟨⟨x, y, m.below hb, r⟩, cy.below hb, ts.below hb, cs.below hb, ty.below hb, d, d2, ne⟩
theorem ShX.more (h : ShX w wr n5 n6 M D X S Y g j c x y many) (hc : 32 ≤ x.wt c) : ShX w wr n5 n6 M D X S Y g j (c + 1) x y many :=
  ⟨h.m, h.rn, h.pz, h.en, h.cy, fun i hi => by
    by_cases e : i = c
    · subst e; exact hc
    · exact h.fw i (by omega), h.ts, h.cs, h.ty, h.d, h.d2, h.ne⟩
theorem wt_more (c i : Nat) (hc : x.wt c < 32) (hi : i < 16384) : (x.add c (bs (Ch.mk 100 i))).wt c = x.wt c + 100 := by
  have sz : (bs (Ch.mk 100 i)).size = 100 := by rw [bs_size, Ch.mk_len 100 i (by omega)]
  have bu : Pk.busy (bs (Ch.mk 100 i)).data.toList = true := by rw [bs_list]; exact Ch.mk_busy 100 i (by omega) (by omega) hi
  have hq : Tm.wait (x.fl c).q < 32 := hc
  show Tm.wait (Ch.upd x.fl c (asS (x.fl c) (bs (Ch.mk 100 i))) c).q = Tm.wait (x.fl c).q + 100
  rw [Ch.upd_same]
  unfold asS
  rw [if_pos ⟨bu, by rw [sz]; omega⟩]
  show ((x.fl c).q ++ [(bs (Ch.mk 100 i)).data.toList]).flatten.length = (x.fl c).q.flatten.length + 100
  rw [bs_list, List.flatten_append, List.length_append]
  simp [Ch.mk_len 100 i (by omega)]
theorem wt_other (c i k : Nat) (hk : k ≠ c) : (x.add c (bs (Ch.mk 100 i))).wt k = x.wt k := by
  show Tm.wait (Ch.upd x.fl c (asS (x.fl c) (bs (Ch.mk 100 i))) k).q = Tm.wait (x.fl k).q
  rw [Ch.upd_ne _ _ hk]
theorem made100 (j : Nat) (hj : j < 16384) (w : World) : Calls Tryz.prog 27 #[.int .i64 100, .int .i64 (j : Nat)] w fun e w' => e = .returned (.string (bs (Ch.mk 100 j))) ∧ Below w.heap.size w w' := cmade_any 100 j (by omega) (by omega) hj w
/-- A packet more in a channel in which too little waits. -/
theorem ShX.add (h : ShX w wr n5 n6 M D X S Y g j c x y many) (hc : c < 8) (hj : j < 16384) (hw : x.wt c < 32) :
    Calls Tryz.prog 12 #[.pointer (some ⟨M, 0, none⟩), .int .i64 (c : Nat), .string (bs (Ch.mk 100 j))] wr fun e w' => e = .returned (.int .i64 0) ∧ ShX w w' n5 n6 M D X S Y g j c (x.add c (bs (Ch.mk 100 j))) y many ∧ 32 ≤ (x.add c (bs (Ch.mk 100 j))).wt c := by
  refine (h.m.add hc hj hw).mono ?_
  rintro e w1 ⟨rfl, m1, k1⟩
  have bs := k1.2 S _ h.ts (by decide) (by decide)
  have bY := k1.2 Y _ h.ty (by decide) (by decide)
  refine ⟨rfl, ⟨m1, h.rn.same rfl rfl, h.pz, h.en, h.cy.of_block bY, fun i hi => ?_, h.ts.of_block bs, h.cs.of_block bs, h.ty.of_block bY, h.d, h.d2, h.ne⟩, by rw [wt_more c j hw hj]; omega⟩
  rw [wt_other c j i (by omega)]
  exact h.fw i hi
/-- A frame is made and fed. -/
theorem ShX.next (h : ShX w wr n5 n6 M D X S Y g j 8 x y many) (hj : j < Ch.s8 g) :
    Calls Tryz.prog 16 #[.pointer (some ⟨M, 0, none⟩), .int .u32 0] wr fun e w1 => ∃ s, e = .returned (.tuple #[.string s, .int .i64 0]) ∧
      Calls Tryz.prog 22 #[.pointer (some ⟨D, 0, none⟩), .string s] w1 fun e w2 => ∃ c db lo mi a pk cc br wo, c < 8 ∧ e = .returned (.tuple #[.agg #[.int .i64 (c : Nat), .bool db, .int .i64 lo, .int .i64 mi, .slice a pk cc, .int .i64 br, .int .u32 wo], .int .i64 0]) ∧ ShZ w w2 n5 n6 M D X S Y g j c many := by
  refine (h.m.next 0 (by omega)).mono ?_
  rintro e w1 ⟨rfl, m1, k1⟩
  refine ⟨_, rfl, ?_⟩
  obtain ⟨e0, ec, ecr, en⟩ := Ch.own_feed h.m.ok 0 (by omega) h.m.yc h.m.yn
  have F := m1.feed _ (MDs.frm_len h.m.ok 0) ecr en
  obtain ⟨r, hr⟩ : ∃ r, y.feed (bs (Tm.enc (x.frm 0))) = r := ⟨_, rfl⟩
  rw [hr] at F e0 ec
  refine F.mono ?_
  rintro e w2 ⟨v, rfl, row, m2, k2⟩
  obtain ⟨a, cc, rfl⟩ := own_form row
  have f : Ch.Full x := ⟨fun i hi => by rw [h.en]; exact h.fw i hi, h.pz⟩
  have pr : x.nxt.pr = x.pr := by
    show x.chz.pr = _
    unfold Ch.Mx.chz
    rw [if_neg f.busy]
  have enn : x.nxt.n = x.n := Ch.Mx.chz_n x
  have b1 := k1.2 S _ h.ts (by decide) (by decide)
  have b1' := k1.2 Y _ h.ty (by decide) (by decide)
  have b2 := k2.2 S _ (h.ts.of_block b1) (by decide) (by decide)
  have b2' := k2.2 Y _ (h.ty.of_block b1') (by decide) (by decide)
  refine ⟨x.ch, r.1.db, (r.1.lo : Nat), (r.1.mi : Nat), a, r.1.pk.length, cc, (r.1.br : Nat), (r.1.wo : Nat), x.ch_lt, ?_, ⟨⟨x.nxt, _, m2, h.rn.next h.m.ok f hj, fun i hi => by rw [pr]; exact h.pz i hi, by rw [enn]; exact h.en⟩, (h.cy.of_block b1').of_block b2', (h.ts.of_block b1).of_block b2, (h.cs.of_block b1).of_block b2, (h.ty.of_block b1').of_block b2', h.d, h.d2, h.ne⟩⟩
  rw [e0, ← ec]
/-- The frame is counted. -/
theorem ShZ.done (h : ShZ w wr n5 n6 M D X S Y g j c many) (hc : c < 8) {v : Int} (hv : v = ((many c + 1 : Nat) : Int)) : ShJ w (wr.setCell ⟨Y, c, none⟩ (.int .i64 v)) n5 n6 M D X S Y g (j + 1) 0 := by
  subst hv
  obtain ⟨⟨x, y, m, rn, pz, en⟩, cy, ts, cs, ty, d, d2, ne⟩ := h
  have k : But Y wr (wr.setCell ⟨Y, c, none⟩ (.int .i64 ((many c + 1 : Nat) : Int))) := (But.refl Y wr).setCell c _
  refine ⟨x, y, _, m.keep ty (by decide) (by decide) d2 k, rn, pz, en, (cy.set c _).congr (fun i hi => ?_), fun i hi => absurd hi (Nat.not_lt_zero i), ts.but k ne, cs.but k ne, ?_, d, d2, ne⟩
  · dsimp only [cel8]
    unfold Ch.upd
    split
    · rfl
    · rfl
  · obtain ⟨cur, fr, h⟩ := ty
    obtain ⟨c', hc'⟩ := cells_setCell (i := c) (u := .int .i64 ((many c + 1 : Nat) : Int)) h
    exact ⟨c', fr, hc'⟩
end
set_option maxRecDepth 100000 in
set_option maxHeartbeats 4000000 in
theorem walk (f : Nat → Int) (hf : ∀ i, i < 8 → (Lit.int .i64 (f i)).wf = true) (r : Int) (hr : (Lit.int .i64 r).wf = true) (w : World) : Calls Tryz.prog 7 #[arr8 f, .int .i64 r] w fun e w' => e = .returned (.bool true) ∧ Below w.heap.size w w' := by
  have SH := Lib.hid (fun w => cshown_any w)
  have PF : Hid (∀ i, i < 8 → ∀ w : World, Calls Tryz.prog 11 #[.int .i64 (f i), .int .i64 6] w fun e w' => e = .returned (.int .i64 ((f i % 6).toNat : Nat)) ∧ w = w') := Lib.hid (fun i hi w => pick_any (f i) (hf i hi) 6 (by omega) (by omega) w)
  have PR : Hid (∀ w : World, Calls Tryz.prog 11 #[.int .i64 r, .int .i64 4] w fun e w' => e = .returned (.int .i64 ((r % 4).toNat : Nat)) ∧ w = w') := Lib.hid (fun w => pick_any r hr 4 (by omega) (by omega) w)
  clear hf hr
  go_enter Tryz.func7, Tryz.ntmps7
  go_wp2_with ((with_reducible refine atList ?_); refine wpList_newT rfl (.box 22 (.tmp 0)) rfl (some 2) rfl #[.int .i64 (f 0), .int .i64 (f 1), .int .i64 (f 2), .int .i64 (f 3), .int .i64 (f 4), .int .i64 (f 5), .int .i64 (f 6), .int .i64 (f 7)] 22 (fun X => .pointer (some ⟨X, 0, none⟩)) 8 (cel8 f) (a8_cells f) (box_a8 rfl rfl) ?_; intro F w1 HF SF CF BF TF)
  (with_reducible refine (SH.out _).mono ?_)
  rintro e w2 ⟨rfl, h2⟩
  have B2 := Lib.hid (bt BF.out h2)
  have CF2 := Lib.hid (CF.out.below h2)
  have N2 := Lib.hid (show w1.heap.size ≤ w2.heap.size from h2.size)
  clear h2 CF
  go_wp2_with (first
    | ((with_reducible refine atList ?_); refine wpList_newT rfl (.alloc 22) rfl (some 6) rfl #[.int .i64 0, .int .i64 0, .int .i64 0, .int .i64 0, .int .i64 0, .int .i64 0, .int .i64 0, .int .i64 0] 22 (fun X => .pointer (some ⟨X, 0, none⟩)) 8 (cel8 (fun _ => 0)) (a8_cells (fun _ => 0)) (alloc_a8 rfl) ?_; intro P w3 HP SP CP BP TP)
    | ((with_reducible refine atList ?_); refine wpList_newT rfl (.alloc 22) rfl (some 7) rfl #[.int .i64 0, .int .i64 0, .int .i64 0, .int .i64 0, .int .i64 0, .int .i64 0, .int .i64 0, .int .i64 0] 22 (fun X => .pointer (some ⟨X, 0, none⟩)) 8 (cel8 (fun _ => 0)) (a8_cells (fun _ => 0)) (alloc_a8 rfl) ?_; intro S w4 HS SS CS BS TS))
  have L0 : Hid (Sh1 w w4 f F P S 0) := Lib.hid ⟨bt (bt B2.out BP.out) BS.out, (CF2.out.below BP.out).below BS.out, CP.out.below BS.out, CS.out.congr (fun j hj => by show cel8 _ j = cel8 _ j; dsimp only [cel8]; rw [if_neg (by omega)]), TP.out.below BS.out, TS.out, by have := HF.out; have := SF.out; have := HP.out; have := HS.out; have := SP.out; have := N2.out; have := B2.out.size; omega⟩
  clear HF SF BF TF B2 CF2 N2 HP SP CP BP TP HS SS CS BS TS
  go_loopw [5, 8] (fun s i wr => ∃ k : Nat, k ≤ 8 ∧ s = .int .i64 (p8 (gs f) k : Nat) ∧ i = .int .i64 k ∧ Sh1 w wr f F P S k) (fun s i _ => 8 - (intOf i).toNat)
  case atStart => exact ⟨0, by omega, rfl, rfl, L0.out⟩
  case round =>
    obtain ⟨k, hk, rfl, rfl, hB⟩ := hrel
    have HB := Lib.hid hB
    clear hB L0
    by_cases hlt : k < 8
    · have k0 : (0 : Int) ≤ (k : Int) := by omega
      have k1 : (k : Int) < 8 := by omega
      have PK := Lib.hid (PF.out k hlt)
      have kf : wr.cell? ⟨F, k, none⟩ = some (.int .i64 (f k)) := HB.out.cf.cell hlt
      have Q := Lib.hid (fun v : Value => HB.out.cs.set k v)
      have q0 : wr.cell? ⟨S, k, none⟩ = some (.int .i64 (if k < k then (gs f k : Nat) else 0)) := HB.out.cs.cell hlt
      have q1 : wr.frozen? ⟨S, k, none⟩ = false := HB.out.cs.frozen hlt
      rw [if_neg (Nat.lt_irrefl k)] at q0
      have G6 := Lib.hid (gs_le f k)
      obtain ⟨u, hu⟩ : ∃ u, (f k % 6).toNat = u := ⟨_, rfl⟩
      have HG := Lib.hid (show gs f k = 1 + u by unfold gs; rw [hu])
      rw [hu] at PK
      have HA := Lib.hid (p8_le (fun i hi => (gs_le f i).2) k (by omega))
      obtain ⟨A, hA⟩ : ∃ A, p8 (gs f) k = A := ⟨_, rfl⟩
      have HA2 := Lib.hid (show p8 (gs f) (k + 1) = A + (1 + u) by show p8 (gs f) k + gs f k = _; rw [hA, HG.out])
      rw [hA] at HA
      rw [hA]
      have e1 : IntKind.i64.wrap (1 + (u : Int)) = ((1 + u : Nat) : Int) := by rw [IntKind.wrap_i64]; have := HG.out; have := G6.out; omega
      have e2 : IntKind.i64.wrap ((A : Int) + ((1 + u : Nat) : Int)) = ((A + (1 + u) : Nat) : Int) := by rw [IntKind.wrap_i64]; have := HA.out; have := HG.out; have := G6.out; omega
      have e3 : IntKind.i64.wrap ((A : Int) + (1 + (u : Int))) = ((A + (1 + u) : Nat) : Int) := by rw [IntKind.wrap_i64]; have := HA.out; have := HG.out; have := G6.out; omega
      clear hA hu
      go_wp2_with fail
      (with_reducible refine (PK.out _).mono ?_)
      rintro e w' ⟨rfl, rfl⟩
      go_wp2_with fail
      go_roundw
      case rel =>
        refine ⟨k + 1, by omega, by rw [HA2.out]; first | rfl | exact congrArg _ e3 | (congr 1; omega), by go_num, HB.out.b.setCell (p := ⟨S, k, none⟩) HB.out.d.2.2.1 _, HB.out.cf.setOther HB.out.d.2.2.2.1 _, HB.out.cp.setOther HB.out.d.2.2.2.2 _, (Q.out _).congr (fun j hj => ?_), HB.out.tp.of_block (Below.heap_setCell _ _ _ _ HB.out.d.2.2.2.2), by obtain ⟨cur, fr, h⟩ := HB.out.ts; obtain ⟨c, hc⟩ := cells_setCell (i := k) (u := .int .i64 (1 + (u : Int))) h; exact ⟨c, fr, hc⟩, HB.out.d⟩
        show (if j = k then _ else cel8 _ j) = cel8 _ j
        dsimp only [cel8]
        by_cases e : j = k
        · subst e
          rw [if_pos rfl, if_pos (by omega), HG.out]
          try rfl
        · rw [if_neg e]
          by_cases e2 : j < k
          · rw [if_pos e2, if_pos (by omega)]
          · rw [if_neg e2, if_neg (by omega)]
      case measure => simp [intOf]; omega
    · obtain rfl : k = 8 := by omega
      rw [p8_all]
      obtain ⟨T, hT⟩ : ∃ T, Ch.s8 (gs f) = T := ⟨_, rfl⟩
      have HT := Lib.hid hT
      rw [hT]
      clear hlt hT
      have NW : Hid (∀ w, Calls Tryz.prog 9 #[.int .i64 7, .int .i64 32, .agg (list8 (fun _ => 0)).toArray, .agg (list8 (fun j => (gs f j : Nat))).toArray] w fun e w' => ∃ M X va vb, e = .returned (.tuple #[.pointer (some ⟨M, 0, none⟩), .int .i64 0]) ∧ PM w' w.heap.size M (Ch.Mx.new 32 7 (fun _ => 0) (fun i => gs f i)) X va vb ∧ Below w.heap.size w w') := Lib.hid (fun w => by
        refine (newMux_any 7 32 (fun _ => 0) (fun j => (gs f j : Nat)) w).mono ?_
        rintro e w' ⟨hb, ⟨hn, _⟩ | ⟨_, M, X, va, vb, e1, p⟩⟩
        · exact absurd ⟨by omega, by omega, fun i hi => ⟨⟨by show (0 : Int) ≤ 0; omega, by show (0 : Int) ≤ 7; omega⟩, by have := gs_le f i; show 1 ≤ ((gs f i : Nat) : Int) ∧ ((gs f i : Nat) : Int) ≤ 100; omega⟩⟩ hn
        · exact ⟨M, X, va, vb, e1, p, hb⟩)
      go_wp2_with (first
        | ((with_reducible refine atList ?_); refine wpList_load_mid rfl 22 (.tmp 6) rfl P 0 rfl (list8 (fun _ => 0)) _ (cel8_range HB.out.cp) Tryz.underlying22 rfl info_a8 ?_)
        | ((with_reducible refine atList ?_); refine wpList_load_mid rfl 22 (.tmp 7) rfl S 0 rfl (list8 (fun j => (gs f j : Nat))) _ (cel8_range (HB.out.cs.congr (fun j hj => by dsimp only [cel8]; rw [if_pos hj]))) Tryz.underlying22 rfl info_a8 ?_))
      have ND : Hid (∀ w, Calls Tryz.prog 20 #[.int .i64 7, .int .i64 32] w fun e w' => ∃ D, e = .returned (.tuple #[.pointer (some ⟨D, 0, none⟩), .int .i64 0]) ∧ PD w' w.heap.size D (Ch.Dx.new 32 7) ∧ Below w.heap.size w w') := Lib.hid (fun w => by
        refine (newDemux_any 7 32 w).mono ?_
        rintro e w' ⟨hb, ⟨hn, _⟩ | ⟨_, D, e1, p⟩⟩
        · exact absurd ⟨by omega, by omega⟩ hn
        · exact ⟨D, e1, p, hb⟩)
      (with_reducible refine (NW.out _).mono ?_)
      rintro e w5 ⟨M, X, va, vb, rfl, P5, h5⟩
      have HP5 := Lib.hid P5
      have B5 := Lib.hid h5
      clear P5 h5
      go_wp2_with fail
      (with_reducible refine (ND.out _).mono ?_)
      rintro e w6 ⟨D, rfl, P6, h6⟩
      have HD6 := Lib.hid P6
      have B6 := Lib.hid h6
      clear P6 h6
      have K0 : Hid (ShR w w6 wr.heap.size w5.heap.size M D X S (gs f)) := Lib.hid (by
        refine ⟨⟨_, _, ⟨⟨_, _, HP5.out.below B6.out⟩, Ch.Mx.Ok.new (by omega) (by omega) (by omega) (fun _ _ => by omega) (fun i _ => (gs_le f i).1) (fun i _ => by have := gs_le f i; omega), HD6.out, Ch.Dx.Ok.new (by omega) (by omega) (by omega), rfl, rfl, bt (bt HB.out.b B5.out) B6.out, Nat.le_trans B5.out.size B6.out.size, B6.out.size, HB.out.b.size, Nat.le_trans HB.out.b.size B5.out.size⟩, ⟨fun _ _ => rfl, rfl, fun _ _ => Nat.zero_le _, .inl ⟨rfl, fun _ _ => rfl⟩⟩, fun _ _ => rfl, rfl⟩, (HB.out.ts.below B5.out).below B6.out, ((HB.out.cs.congr (fun j hj => by dsimp only [cel8]; rw [if_pos hj])).below B5.out).below B6.out, HB.out.d.2.2.1⟩)
      obtain ⟨n5, hn5⟩ : ∃ n, wr.heap.size = n := ⟨_, rfl⟩
      obtain ⟨n6, hn6⟩ : ∃ n, w5.heap.size = n := ⟨_, rfl⟩
      rw [hn5, hn6] at K0
      clear HP5 B5 HD6 B6 HB NW ND PF hn5 hn6
      go_wp2_with fail
      obtain ⟨R4, hR⟩ : ∃ R4, (r % 4).toNat = R4 := ⟨_, rfl⟩
      rw [hR] at PR
      have HR4 := Lib.hid (show R4 ≤ 3 by omega)
      clear hR
      go_loopw [13] (fun i wq => ∃ k : Nat, k ≤ R4 + 1 ∧ i = .int .i64 k ∧ ShR w wq n5 n6 M D X S (gs f)) (fun i _ => R4 + 1 - (intOf i).toNat)
      case atStart => exact ⟨0, by omega, rfl, K0.out⟩
      case round =>
        obtain ⟨k, hk, rfl, hB⟩ := hrel
        have HK := Lib.hid hB
        clear hB K0
        by_cases hlt : k ≤ R4
        · have c1 : decide ((k : Int) ≤ (R4 : Int)) = true := decide_eq_true (by omega)
          have c1n : decide (k ≤ R4) = true := decide_eq_true hlt
          have HLT := Lib.hid hlt
          have kb0 : (0 : Int) ≤ (k : Int) := by omega
          have kb : (k : Int) < 4 := by have := HR4.out; omega
          clear hlt
          go_wp2_with fail
          (with_reducible refine (PR.out _).mono ?_)
          rintro e w' ⟨rfl, rfl⟩
          go_wp2_with ((with_reducible refine atList ?_); refine wpList_newT rfl (.alloc 22) rfl (some 14) rfl #[.int .i64 0, .int .i64 0, .int .i64 0, .int .i64 0, .int .i64 0, .int .i64 0, .int .i64 0, .int .i64 0] 22 (fun X => .pointer (some ⟨X, 0, none⟩)) 8 (cel8 (fun _ => 0)) (a8_cells (fun _ => 0)) (alloc_a8 rfl) ?_; intro Y w7 HY SY CY BY TY)
          have J0 : Hid (ShJ w w7 n5 n6 M D X S Y (gs f) 0 0) := Lib.hid (by
            obtain ⟨⟨x, y, m, rn, pz, en⟩, ts, cs, d⟩ := HK.out
            exact ⟨x, y, fun _ => 0, m.below BY.out, rn, pz, en, CY.out, fun i hi => absurd hi (Nat.not_lt_zero i), ts.below BY.out, cs.below BY.out, TY.out, d, by rw [← HY.out]; exact m.b.size, by have := cs.lt; have := HY.out; omega⟩)
          clear HK HY SY CY BY TY c1 c1n
          go_loopw [15] (fun i wj => ∃ j : Nat, j ≤ T ∧ i = .int .i64 j ∧ ShJ w wj n5 n6 M D X S Y (gs f) j 0) (fun i _ => T - (intOf i).toNat)
          case atStart => exact ⟨0, by omega, rfl, J0.out⟩
          case round =>
            obtain ⟨j, hj, rfl, hB⟩ := hrel
            have HJ := Lib.hid hB
            clear hB J0
            by_cases hjt : j < T
            · have c1 : decide ((j : Int) < (T : Int)) = true := decide_eq_true (by omega)
              have c1n : decide (j < T) = true := decide_eq_true hjt
              have JT := Lib.hid hjt
              have JS : Hid (j < Ch.s8 (gs f)) := Lib.hid (by rw [HT.out]; exact hjt)
              have T48 : T ≤ 48 := by
                have := p8_le (fun i _ => (gs_le f i).2) 8 (by omega)
                rw [p8_all, HT.out] at this
                omega
              have J4 := Lib.hid (show j < 16384 by omega)
              have kb0 : (0 : Int) ≤ (j : Int) := by omega
              have kb : (j : Int) < 48 := by omega
              clear hjt T48 hj
              go_wp2_with fail
              go_loopw [16] (fun i wc => ∃ c : Nat, c ≤ 8 ∧ i = .int .i64 c ∧ ShJ w wc n5 n6 M D X S Y (gs f) j c) (fun i _ => 8 - (intOf i).toNat)
              case atStart => exact ⟨0, by omega, rfl, HJ.out⟩
              case round =>
                obtain ⟨c, hc, rfl, hB⟩ := hrel
                have HC := Lib.hid hB
                clear hB HJ c1 c1n
                by_cases hlt : c < 8
                · obtain ⟨x, y, many, hx⟩ := HC.out
                  have HX := Lib.hid hx
                  clear hx HC
                  have k0 : (0 : Int) ≤ (c : Int) := by omega
                  have k1 : (c : Int) < 8 := by omega
                  have HLT := Lib.hid hlt
                  have W1 := Lib.hid (HX.out.m.waiting hlt)
                  obtain ⟨wt, hwt⟩ : ∃ z, x.wt c = z := ⟨_, rfl⟩
                  rw [hwt] at W1
                  have HW := Lib.hid hwt
                  clear hwt hlt
                  by_cases q : wt < 32
                  · have q1 : decide ((wt : Int) < 32) = true := decide_eq_true (by omega)
                    have q1n : decide (wt < 32) = true := decide_eq_true q
                    have HQ := Lib.hid q
                    clear q
                    go_wp2_with fail
                    refine wp_loop_rounds 2 ?_
                    rw [rounds_succ]
                    go_wp2_with fail
                    (with_reducible refine W1.out.mono ?_)
                    rintro e wa ⟨rfl, nd, rfl⟩
                    have HXa := Lib.hid (HX.out.below (below_drewN (Below.refl _ _) nd))
                    obtain ⟨wa, hwa⟩ : ∃ z, wr.drewN nd = z := ⟨_, rfl⟩
                    rw [hwa] at HXa ⊢
                    clear hwa W1
                    go_wp2_with fail
                    (with_reducible refine (made100 j J4.out wa).mono ?_)
                    rintro e wb ⟨rfl, hb⟩
                    have HXb := Lib.hid (HXa.out.below hb)
                    clear hb HXa
                    have AA := Lib.hid (HXb.out.add HLT.out J4.out (by rw [HW.out]; exact HQ.out))
                    obtain ⟨x2, hx2⟩ : ∃ z, x.add c (bs (Ch.mk 100 j)) = z := ⟨_, rfl⟩
                    rw [hx2] at AA
                    clear hx2
                    go_wp2_with fail
                    (with_reducible refine AA.out.mono ?_)
                    rintro e wd ⟨rfl, hd, hwt⟩
                    have HXd := Lib.hid (hd.more hwt)
                    have W2 := Lib.hid (hd.m.waiting HLT.out)
                    obtain ⟨wt2, hwt2⟩ : ∃ z, x2.wt c = z := ⟨_, rfl⟩
                    rw [hwt2] at W2 hwt
                    have q2 : decide ((wt2 : Int) < 32) = false := decide_eq_false (by omega)
                    have q2n : decide (wt2 < 32) = false := decide_eq_false (by omega)
                    clear hd hwt2 hwt HXb AA q1 q1n
                    go_wp2_with fail
                    rw [rounds_succ]
                    go_wp2_with fail
                    (with_reducible refine W2.out.mono ?_)
                    rintro e we ⟨rfl, nd, rfl⟩
                    go_wp2_with fail
                    go_roundw
                    case rel => exact ⟨c + 1, by have := HLT.out; omega, by have := HLT.out; go_num, _, _, _, HXd.out.below (below_drewN (Below.refl _ _) nd)⟩
                    case measure => have := HLT.out; simp [intOf]; omega
                  · have q1 : decide ((wt : Int) < 32) = false := decide_eq_false (by omega)
                    have q1n : decide (wt < 32) = false := decide_eq_false q
                    have HXd := Lib.hid (HX.out.more (by rw [HW.out]; omega))
                    clear q
                    go_wp2_with fail
                    refine wp_loop_rounds 1 ?_
                    rw [rounds_succ]
                    go_wp2_with fail
                    (with_reducible refine W1.out.mono ?_)
                    rintro e wa ⟨rfl, nd, rfl⟩
                    go_wp2_with fail
                    go_roundw
                    case rel => exact ⟨c + 1, by have := HLT.out; omega, by have := HLT.out; go_num, _, _, _, HXd.out.below (below_drewN (Below.refl _ _) nd)⟩
                    case measure => have := HLT.out; simp [intOf]; omega
                · obtain rfl : c = 8 := by omega
                  obtain ⟨x, y, many, hx⟩ := HC.out
                  have NN := Lib.hid (hx.next JS.out)
                  clear hx HC hlt hc
                  go_wp2_with fail
                  (with_reducible refine NN.out.mono ?_)
                  rintro e wa ⟨s, rfl, hf⟩
                  have NF := Lib.hid hf
                  clear hf NN
                  go_wp2_with fail
                  (with_reducible refine NF.out.mono ?_)
                  rintro e wb ⟨c, db, lo, mi, a, pk, cc, br, wo, hc8, rfl, hz⟩
                  have HZ := Lib.hid hz
                  have HC8 := Lib.hid hc8
                  have e3 : IntKind.i64.wrap ((many c : Int) + 1) = ((many c + 1 : Nat) : Int) := by
                    obtain ⟨⟨x, y, m, rn, _⟩, _⟩ := hz
                    have h1 := rn.le c hc8
                    rw [Ch.upd_same] at h1
                    have h2 := gs_le f c
                    rw [IntKind.wrap_i64]
                    omega
                  have e4 : wrap64 ((many c : Int) + 1) = ((many c + 1 : Nat) : Int) := by rw [IntKind.wrap_i64] at e3; unfold wrap64; exact e3
                  have c0 : (0 : Int) ≤ (c : Int) := by omega
                  have c7 : (c : Int) < 8 := by omega
                  clear hz NF
                  go_wp2_with (first
                    | ((with_reducible refine atList ?_); refine wpList_newT rfl (.alloc 51) rfl (some 19) rfl #[.int .i64 0, .bool false, .int .i64 0, .int .i64 0, .slice none 0 0, .int .i64 0, .int .u32 0] 51 (fun X => .pointer (some ⟨X, 0, none⟩)) 7 (aC (.slice none 0 0) Ch.av0) (arC_cells (.slice none 0 0) Ch.av0) (alloc_ar rfl) ?_; intro A wc HA SA CA BA TA)
                    | ((with_reducible refine atList ?_); refine wpList_setAllT rfl 51 (.tmp 19) (.tmp 89) rfl A 7 [.int .i64 (c : Nat), .bool db, .int .i64 lo, .int .i64 mi, .slice a pk cc, .int .i64 br, .int .u32 wo] _ (fun j => ([.int .i64 (c : Nat), .bool db, .int .i64 lo, .int .i64 mi, .slice a pk cc, .int .i64 br, .int .u32 wo] : List Value).getD j undef) CA.out rfl (fun j hj => by rw [List.getD_eq_getElem?_getD, List.getElem?_eq_getElem hj]; rfl) rfl rfl info_ar (by simp [Value.oneCell']) ?_; intro wd CD UD SD VD; have BD := Lib.hid (show Below wb.heap.size wb wd from BA.out.trans (UD.out.below.mono (by have := HA.out; omega))); have ZD := Lib.hid (HZ.out.below BD.out); have a0 : wd.cell? ⟨A, 0, none⟩ = some (.int .i64 (c : Nat)) := CD.out.cell (j := 0) (by omega); have yc : wd.cell? ⟨Y, c, none⟩ = some (.int .i64 (many c : Nat)) := ZD.out.cy.cell HC8.out; have yf : wd.frozen? ⟨Y, c, none⟩ = false := ZD.out.cy.frozen HC8.out))
                  clear CA CD UD SD VD HA SA BA TA BD HZ
                  go_roundw
                  case rel => exact ⟨j + 1, JT.out, by have := JT.out; go_num, ZD.out.done HC8.out (by first | rfl | exact e3 | exact e4)⟩
                  case measure => have := JT.out; simp [intOf]; omega
            · obtain rfl : j = T := by omega
              clear hjt hj
              have HY : Hid (Cel wr Y 8 (cel8 (fun i => (gs f i : Nat)))) := Lib.hid (by
                obtain ⟨x, y, many, m, rn, pz, en, cy, _⟩ := HJ.out
                rw [← HT.out] at rn
                exact cy.congr (fun i hi => by dsimp only [cel8]; rw [rn.full i hi]))
              have HRR : Hid (ShR w wr n5 n6 M D X S (gs f)) := Lib.hid (by
                obtain ⟨x, y, many, m, rn, pz, en, cy, fw, ts, cs, ty, d, d2, ne⟩ := HJ.out
                rw [← HT.out] at rn
                exact ⟨⟨x, y, m, rn.again (by unfold Ch.s8; have := (gs_le f 0).1; omega), pz, en⟩, ts, cs, d⟩)
              have nq : (Op.equalIn 10000 22 (.agg (list8 (fun i => (gs f i : Nat))).toArray) (.agg (list8 (fun i => (gs f i : Nat))).toArray)).run Tryz.prog wr = .ok true wr := eqIn8 (fun i => (gs f i : Nat)) wr
              go_wp2_with (first
                | ((with_reducible refine atList ?_); refine wpList_load_mid rfl 22 (.tmp 14) rfl Y 0 rfl (list8 (fun i => (gs f i : Nat))) _ (cel8_range HY.out) Tryz.underlying22 rfl info_a8 ?_)
                | ((with_reducible refine atList ?_); refine wpList_load_mid rfl 22 (.tmp 7) rfl S 0 rfl (list8 (fun i => (gs f i : Nat))) _ (cel8_range HRR.out.cs) Tryz.underlying22 rfl info_a8 ?_))
              go_roundw
              case rel => exact ⟨k + 1, by have := HLT.out; omega, by have := HR4.out; have := HLT.out; go_num, HRR.out⟩
              case measure => have := HR4.out; have := HLT.out; simp [intOf]; omega
        · have c1 : decide ((k : Int) ≤ (R4 : Int)) = false := decide_eq_false (by omega)
          have c1n : decide (k ≤ R4) = false := decide_eq_false hlt
          clear hlt
          go_wp2_with fail
          (with_reducible refine (PR.out _).mono ?_)
          rintro e w' ⟨rfl, rfl⟩
          go_wp2_with fail
          go_ret
          obtain ⟨⟨x, y, m, _⟩, _⟩ := HK.out
          exact ⟨rfl, m.b⟩

set_option maxRecDepth 100000 in
theorem lifted (os : Os) (started : os.Started) (H : Type) (enc : TypeId × Value → H) :
    ReturnsInHanded {} Tryz.checked os 7 .any (Rows.channelsSharesSpec.pre6 enc Tryz.prog Tryz.f7 Rows.channelsSharesRow.domain false) (Rows.channelsSharesSpec.post enc Tryz.prog Tryz.f7 false true false false) := by
  refine returnsInHanded_of_change (C := Tryz.checked) own started (by kernel_rfl) Tryz.func7
    (ChangeSpec.witness6 (enc := enc) (C := Tryz.checked) false ⟨#[], #[.agg #[.int .i64 0, .int .i64 0, .int .i64 0, .int .i64 0, .int .i64 0, .int .i64 0, .int .i64 0, .int .i64 0], .int .i64 0], []⟩ 8 (by kernel_rfl) (by kernel_rfl) (by kernel_rfl) (by kernel_rfl)) ?_
  intro W base args ds gs before hval0 hW _ _
  have hval : ∀ (j : Nat) t v, Tryz.f7.params[j]? = some t → args[j]? = some v → Value.okWide Tryz.prog W .any base t v := hval0
  have hW' := hW
  obtain ⟨p, q, hA0, hV, rfl, hfz, hnd⟩ := hW
  have hA : DataW.TrodAll enc Tryz.prog W 0 (fun _ => true) true Tryz.f7.params.toList args.toList ds p := hA0
  rw [Tryz.params7] at hA hval
  obtain ⟨v0, vs0, d0, ds0, p0, q0, hargs, rfl, rfl, h0, r0⟩ := trodAll_cons hA
  obtain ⟨v1, vs1, d1, ds1, p1, q1, rfl, rfl, rfl, h1, r1⟩ := trodAll_cons r0
  obtain ⟨rfl, rfl, rfl⟩ := trodAll_nil r1
  obtain rfl : args = #[v0, v1] := by cases args; simp_all
  obtain ⟨rfl, rfl⟩ := trodVars_none hV
  obtain ⟨a0, rfl, w0, shut0⟩ := a8_arg (hval 0 22 v0 rfl rfl) h0
  obtain ⟨a1, rfl, rfl, rfl, w1⟩ := open_int Tryz.underlying3 (hval 1 3 v1 rfl rfl) h1
  clear hA0 hval0
  simp only [List.append_nil] at hW'
  refine (walk a0 w0 a1 w1 W).mono fun e W' ⟨he, hg⟩ => ?_
  subst he
  exact ⟨_, rfl, post_of_below (pa := (p0 ++ ([] ++ []))) (pv := []) hW' (fun _ _ _ => trodAll_cons_mk (shut_bool Tryz.underlying4 _) trodAll_mk0) (fun sp hsp => (trodAll_cons_mk (shut0 W' hg sp (fun q hq => hsp q (by simp [hq]))) (trodAll_cons_mk (shut_int Tryz.underlying3 w1) trodAll_mk0))) (fun _ _ => rfl) (by simp)
    hg (ok_one (by kernel_rfl) rfl (okWide_bool_mk Tryz.underlying4 _))⟩

theorem proved : Rows.ChannelsSharesSaid :=
  OpenClaim.holds_of_wide 7 Tryz.f7 rfl rfl rfl rfl rfl rfl rfl ⟨rfl, rfl, rfl, rfl, rfl⟩ rfl rfl rfl rfl rfl (by kernel_rfl) Tryz.func7 (by kernel_rfl)
    (of_decide_eq_true (by kernel_rfl)) (by unfold Func.isWrapper; first | (rw [if_pos (by decide +kernel)]; kernel_rfl) | (rw [if_neg (by decide +kernel)]; exact ⟨rfl, rfl⟩))
    (fun os started H enc _ => lifted os started H enc)
#print axioms proved
end channelsShares
end Go.Proofs.YtchfkncbemjepaaGreat
