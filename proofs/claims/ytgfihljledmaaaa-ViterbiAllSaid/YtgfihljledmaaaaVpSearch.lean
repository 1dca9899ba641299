/- The contract of viterbi's search over this program. -/
import Derived.Test.YtgfihljledmaaaaVpSr
namespace Go.Proofs.Ytgfihljledmaaaa
open Go.RowKit
set_option linter.unusedVariables false

/-- The survivors with k steps to go, from the step i on. -/
def svF (f : Nat → Int) (M k i c : Nat) : Value := if c % 2 = 0 then .int .i64 (Vit.bbit f M k i (c / 2) : Nat) else .int .i64 (Vit.bsum f M k i (c / 2))
/-- The survivors as they come up: those of the first j states are new. -/
def mixF (f : Nat → Int) (M k i j c : Nat) : Value := if c / 2 < j then svF f M (k + 1) i c else svF f M k (i + 1) c
/-- The bits of the survivors, from the row r on. -/
def rowF (f : Nat → Int) (M T r c : Nat) : Value := if r ≤ c / 64 then .int .u8 (Vit.bbit f M (T - c / 64) (c / 64) (c % 64) : Nat) else .int .u8 0
/-- What lies in memory while search runs. -/
structure SrI (f : Nat → Int) (M T D H G E n0 : Nat) (w0 : World) (F X : Nat → Value) (r : Nat) (w : World) : Prop where
  tab : Cel w D 384 (fun c => .int .i64 (tabN c : Nat))
  beh : Cel w H 128 F
  ahd : Cel w G 128 X
  bts : Cel w E (M * 64) (rowF f M T r)
  bel : Below n0 w0 w
namespace SrI
variable {f : Nat → Int} {M T D H G E n0 r : Nat} {w0 w w' : World} {F X Y : Nat → Value}
theorem below (h : SrI f M T D H G E n0 w0 F X r w) (hn : n0 ≤ w.heap.size) (hb : Below w.heap.size w w') : SrI f M T D H G E n0 w0 F X r w' := ⟨h.tab.below hb, h.beh.below hb, h.ahd.below hb, h.bts.below hb, h.bel.trans (hb.mono hn)⟩
theorem congr (h : SrI f M T D H G E n0 w0 F X r w) (e : ∀ c, c < 128 → X c = Y c) : SrI f M T D H G E n0 w0 F Y r w := ⟨h.tab, h.beh, h.ahd.congr e, h.bts, h.bel⟩
end SrI
/-- Different blocks. -/
structure Apart (n0 D H G E : Nat) : Prop where
  n : n0 ≤ D ∧ n0 ≤ H ∧ n0 ≤ G ∧ n0 ≤ E
  x : D ≠ H ∧ D ≠ G ∧ D ≠ E ∧ H ≠ G ∧ H ≠ E ∧ G ≠ E
theorem bestV_eq (f : Nat → Int) (M k i j q : Nat) (hq : q = if i < M then 2 else 1) :
    bestV q (cv (f (2 * i)) (f (2 * i + 1)) (Vit.bsum f M k (i + 1)) j 0) (cv (f (2 * i)) (f (2 * i + 1)) (Vit.bsum f M k (i + 1)) j 1) = #[.int .i64 (Vit.bbit f M (k + 1) i j : Nat), .int .i64 (Vit.bsum f M (k + 1) i j)] := by
  rw [Vit.bbit_succ, Vit.bsum_succ]
  have e : ∀ b, cv (f (2 * i)) (f (2 * i + 1)) (Vit.bsum f M k (i + 1)) j b = Vit.cst f i j b + Vit.bsum f M k (i + 1) (Cv.nx j b) := fun b => rfl
  unfold bestV
  rw [e, e]
  by_cases h : i < M
  · rw [if_pos h] at hq
    by_cases g : Vit.cst f i j 0 + Vit.bsum f M k (i + 1) (Cv.nx j 0) < Vit.cst f i j 1 + Vit.bsum f M k (i + 1) (Cv.nx j 1)
    · rw [if_pos ⟨hq, g⟩, if_pos ⟨h, g⟩, if_pos ⟨h, g⟩]
      rfl
    · rw [if_neg (fun z => g z.2), if_neg (fun z => g z.2), if_neg (fun z => g z.2)]
      rfl
  · rw [if_neg h] at hq
    rw [if_neg (fun z => by have := z.1; omega), if_neg (fun z => h z.1), if_neg (fun z => h z.1)]
    rfl
section
variable {f : Nat → Int} {M T D H G E n0 r sb so N cap : Nat} {w0 : World}
theorem best_in (hsb : sb < n0) (hn0 : n0 ≤ w0.heap.size) (hS : ∀ c, c < N → w0.cell? ⟨sb, so + c, none⟩ = some (.int .i64 (f c))) (hf : ∀ c, c < N → -8 ≤ f c ∧ f c ≤ 7)
    (k i j q jj : Nat) (hT : T = i + 1 + k) (hN : N = 2 * T) (hT1 : T ≤ 100000) (hj : j < 64) (hq : q = if i < M then 2 else 1) (hjj : jj = 2 * i) (X : Nat → Value) (w : World) (h : SrI f M T D H G E n0 w0 (svF f M k (i + 1)) X r w) :
    Calls Try.prog 35 #[.slice (some ⟨D, j * 6, none⟩) q 2, .slice (some ⟨sb, so + jj, none⟩) (N - jj) (cap - jj), .pointer (some ⟨H, 0, none⟩)] w fun e w' => e = .returned (.agg #[.int .i64 (Vit.bbit f M (k + 1) i j : Nat), .int .i64 (Vit.bsum f M (k + 1) i j)]) ∧ Below w.heap.size w w' := by
  subst hjj
  have hq2 : q = 1 ∨ q = 2 := by
    rw [hq]
    split
    · exact .inr rfl
    · exact .inl rfl
  have hc : ∀ c, c < N → w.cell? ⟨sb, so + c, none⟩ = some (.int .i64 (f c)) := fun c hc => (h.bel.cell (p := ⟨sb, so + c, none⟩) hsb).trans (hS c hc)
  have hlS : sb < w.heap.size := Nat.lt_of_lt_of_le hsb (Nat.le_trans hn0 h.bel.size)
  have B := best_any q j hq2 hj D (j * 6) sb (so + 2 * i) (N - 2 * i) (cap - 2 * i) H (f (2 * i)) (f (2 * i + 1)) (Vit.bsum f M k (i + 1)) w h.tab.lt hlS h.beh.lt (by omega) (hf _ (by omega)) (hf _ (by omega))
    (fun t ht => by
      have := Vit.bsum_small (f := f) M k (i + 1) (fun c hc' => hf c (by omega)) t
      omega)
    (fun b q' hb hq' => by
      have := h.tab.cell (j := j * 6 + (b * 3 + q')) (by omega)
      rw [this]
      show some (Value.int .i64 (tabN (j * 6 + (b * 3 + q')) : Nat)) = _
      rw [← Nat.add_assoc])
    (hc _ (by omega)) (by rw [Nat.add_assoc]; exact hc _ (by omega))
    (fun t ht => by
      rw [h.beh.cell (j := t * 2 + 1) (by omega)]
      unfold svF
      rw [if_neg (by omega), show (t * 2 + 1) / 2 = t by omega])
  rw [bestV_eq f M k i j q hq] at B
  exact B
end
theorem zeroSv (w : World) : Sem.run Try.prog (zeroValue 69) w = .ok (.agg (arrK .i64 128 (fun _ => 0))) w := by rw [arrK_zero]; kernel_rfl
theorem sv_zero (f : Nat → Int) (M i c : Nat) : svF f M 0 i c = .int .i64 0 := by
  unfold svF
  split <;> rfl
theorem row_none (f : Nat → Int) (M T c : Nat) (h : c < M * 64) (hM : M ≤ T) : rowF f M T T c = .int .u8 0 := by
  unfold rowF
  rw [if_neg (by omega)]
section
variable {f : Nat → Int} {M T D H G E n0 r k i j : Nat} {w0 w : World}
theorem mix_next (h1 : D ≠ G) (h2 : H ≠ G ∧ G ≠ E) (hj : j < 64) {F : Nat → Value} (h : SrI f M T D H G E n0 w0 F (mixF f M k i j) r w) (hn : n0 ≤ G) :
    SrI f M T D H G E n0 w0 F (mixF f M k i (j + 1)) r (w.setCells G (j * 2) [.int .i64 (Vit.bbit f M (k + 1) i j : Nat), .int .i64 (Vit.bsum f M (k + 1) i j)]) := by
  refine ⟨h.tab.manyOther _ h1, h.beh.manyOther _ h2.1, (h.ahd.setMany (j * 2) [.int .i64 (Vit.bbit f M (k + 1) i j : Nat), .int .i64 (Vit.bsum f M (k + 1) i j)] (by show j * 2 + 2 ≤ 128; omega) (.int .i64 0)).congr (fun c hc => ?_), h.bts.manyOther _ (Ne.symm h2.2), below_setCells hn _ _ _ h.bel⟩
  show (if j * 2 ≤ c ∧ c < j * 2 + 2 then ([.int .i64 (Vit.bbit f M (k + 1) i j : Nat), .int .i64 (Vit.bsum f M (k + 1) i j)] : List Value).getD (c - j * 2) (.int .i64 0) else mixF f M k i j c) = mixF f M k i (j + 1) c
  unfold mixF svF
  by_cases e : j * 2 ≤ c ∧ c < j * 2 + 2
  · rw [if_pos e, if_pos (show c / 2 < j + 1 by omega), show c / 2 = j by omega]
    by_cases e0 : c % 2 = 0
    · rw [if_pos e0, show c - j * 2 = 0 by omega]
      rfl
    · rw [if_neg e0, show c - j * 2 = 1 by omega]
      rfl
  · rw [if_neg e]
    by_cases g : c / 2 < j
    · rw [if_pos g, if_pos (show c / 2 < j + 1 by omega)]
    · rw [if_neg g, if_neg (show ¬ c / 2 < j + 1 by omega)]
theorem mix_end (c : Nat) (hc : c < 128) : mixF f M k i 64 c = svF f M (k + 1) i c := by
  unfold mixF
  rw [if_pos (by omega)]
theorem copy_next (h1 : D ≠ H) (h2 : G ≠ H) (h3 : E ≠ H) {F : Nat → Value} (h : SrI f M T D H G E n0 w0 F (mixF f M k i 64) r w) (hn : n0 ≤ H) :
    SrI f M T D H G E n0 w0 (svF f M (k + 1) i) (svF f M (k + 1) i) r (w.setCells H 0 ((List.range 128).map (svF f M (k + 1) i))) := by
  refine ⟨h.tab.manyOther _ h1, (h.beh.setMany 0 ((List.range 128).map (svF f M (k + 1) i)) (by simp) (.int .i64 0)).congr (fun c hc => ?_), (h.ahd.congr (fun c hc => mix_end c hc)).manyOther _ h2, h.bts.manyOther _ h3, below_setCells hn _ _ _ h.bel⟩
  show (if 0 ≤ c ∧ c < 0 + ((List.range 128).map (svF f M (k + 1) i)).length then ((List.range 128).map (svF f M (k + 1) i)).getD (c - 0) (.int .i64 0) else F c) = svF f M (k + 1) i c
  rw [if_pos ⟨Nat.zero_le _, by simpa using hc⟩, Nat.sub_zero, List.getD_eq_getElem?_getD, List.getElem?_map, List.getElem?_range hc]
  rfl
theorem copy_src {F : Nat → Value} (h : SrI f M T D H G E n0 w0 F (mixF f M k i 64) r w) : ∀ c v, ((List.range 128).map (svF f M (k + 1) i))[c]? = some v → w.cell? ((⟨G, 0, none⟩ : Addr).add c) = some v := fun c v hv => by
  rw [List.getElem?_map] at hv
  by_cases hc : c < 128
  · rw [List.getElem?_range hc] at hv
    rw [Addr.add_mid, Nat.zero_add, h.ahd.cell hc, mix_end c hc]
    exact hv
  · rw [List.getElem?_eq_none (by simpa using hc)] at hv
    cases hv
theorem copy_one (f : Nat → Int) (M k i : Nat) : ∀ v ∈ (List.range 128).map (svF f M (k + 1) i), v.oneCell' = true := fun v hv => by
  obtain ⟨c, _, rfl⟩ := List.mem_map.1 hv
  unfold svF
  split <;> rfl
theorem bits_in {X : Nat → Value} (h : SrI f M T D H G E n0 w0 (svF f M (k + 1) i) X r w) :
    Calls Try.prog 36 #[.pointer (some ⟨H, 0, none⟩)] w fun e w' => e = .returned (.agg (arrK .u8 64 (Vit.bbit f M (k + 1) i))) ∧ Below w.heap.size w w' :=
  firstBits_any H (Vit.bbit f M (k + 1) i) (Vit.bsum f M (k + 1) i) w h.beh.lt (fun t _ => Vit.bbit_lt f M (k + 1) i t)
    (fun t ht => by
      rw [h.beh.cell (j := t * 2) (by omega)]
      unfold svF
      rw [if_pos (by omega), show t * 2 / 2 = t by omega])
    (fun t ht => by
      rw [h.beh.cell (j := t * 2 + 1) (by omega)]
      unfold svF
      rw [if_neg (by omega), show (t * 2 + 1) / 2 = t by omega])
theorem row_next (hT : T = i + 1 + k) (hM : i < M) (h1 : D ≠ E) (h2 : H ≠ E) (h3 : G ≠ E) {F X : Nat → Value} (h : SrI f M T D H G E n0 w0 F X (i + 1) w) (hn : n0 ≤ E) :
    SrI f M T D H G E n0 w0 F X i (w.setCells E (i * 64) (arrK .u8 64 (Vit.bbit f M (k + 1) i)).toList) := by
  have hl : (arrK .u8 64 (Vit.bbit f M (k + 1) i)).toList.length = 64 := by simp [arrK_size]
  refine ⟨h.tab.manyOther _ h1, h.beh.manyOther _ h2, h.ahd.manyOther _ h3, (h.bts.setMany (i * 64) (arrK .u8 64 (Vit.bbit f M (k + 1) i)).toList (by rw [hl]; omega) (.int .i64 0)).congr (fun c hc => ?_), below_setCells hn _ _ _ h.bel⟩
  show (if i * 64 ≤ c ∧ c < i * 64 + (arrK .u8 64 (Vit.bbit f M (k + 1) i)).toList.length then (arrK .u8 64 (Vit.bbit f M (k + 1) i)).toList.getD (c - i * 64) (.int .i64 0) else rowF f M T (i + 1) c) = rowF f M T i c
  rw [hl]
  unfold rowF
  by_cases e : i * 64 ≤ c ∧ c < i * 64 + 64
  · rw [if_pos e, if_pos (show i ≤ c / 64 by omega), List.getD_eq_getElem?_getD, Array.getElem?_toList, arrK_get _ _ _ _ (by omega), show c / 64 = i by omega, show c % 64 = c - i * 64 by omega, show T - i = k + 1 by omega]
    rfl
  · rw [if_neg e]
    by_cases g : i + 1 ≤ c / 64
    · rw [if_pos g, if_pos (show i ≤ c / 64 by omega)]
    · rw [if_neg g, if_neg (show ¬ i ≤ c / 64 by omega)]
theorem row_same {F X : Nat → Value} (h : SrI f M T D H G E n0 w0 F X (i + 1) w) (hM : M ≤ i) : SrI f M T D H G E n0 w0 F X i w :=
  ⟨h.tab, h.beh, h.ahd, h.bts.congr (fun c hc => by
    unfold rowF
    rw [if_neg (by omega), if_neg (by omega)]), h.bel⟩
end
set_option maxRecDepth 100000 in
set_option maxHeartbeats 4000000 in
theorem search_any (sb so N cap m : Nat) (f : Nat → Int) (hN : N = 16 * m + 12) (hm : m ≤ 1100) (hcap : N ≤ cap) (w : World) (hsb : sb < w.heap.size)
    (hS : ∀ c, c < N → w.cell? ⟨sb, so + c, none⟩ = some (.int .i64 (f c))) (hf : ∀ c, c < N → -8 ≤ f c ∧ f c ≤ 7) :
    Calls Try.prog 24 #[.slice (some ⟨sb, so, none⟩) N cap] w fun e w' => ∃ E, e = .returned (.tuple #[.slice (some ⟨E, 0, none⟩) (8 * m) (8 * m), .int .i64 (Vit.bsum f (8 * m) (8 * m + 6) 0 0)]) ∧ Cel w' E (8 * m * 64) (rowF f (8 * m) (8 * m + 6) 0) ∧ Below w.heap.size w w' := by
  have AL := Lib.hid (fun w => vallSteps_any w)
  have Z := Lib.hid (fun w => zeroAllV w)
  obtain ⟨C, hC⟩ : ∃ C, arrK .i64 384 tabN = C := ⟨_, rfl⟩
  obtain ⟨z, hz⟩ : ∃ z, arrK .i64 384 (fun _ => 0) = z := ⟨_, rfl⟩
  rw [hC] at AL
  rw [hz] at Z
  have HC := Lib.hid hC
  have Hz := Lib.hid hz
  obtain ⟨z9, hz9⟩ : ∃ z, arrK .i64 128 (fun _ => 0) = z := ⟨_, rfl⟩
  have Z9 := Lib.hid (fun w => zeroSv w)
  rw [hz9] at Z9
  have Hz9 := Lib.hid hz9
  obtain ⟨M, hM⟩ : ∃ M, 8 * m = M := ⟨_, rfl⟩
  obtain ⟨T, hT⟩ : ∃ T, M + 6 = T := ⟨_, rfl⟩
  rw [hM, hT]
  have HS := Lib.hid hS
  have HF := Lib.hid hf
  have d1 : (N : Int) / 2 - 6 = (M : Int) := by omega
  have d2 : (N : Int) / 2 - 1 = (T : Int) - 1 := by omega
  have HN2 := Lib.hid (show N = 2 * T by omega)
  have HM1 : M ≤ 8800 := by omega
  have Hsb := Lib.hid hsb
  clear hC hz hS hf hsb hM hz9 hN hm
  go_enter Try.func24, Try.ntmps24
  go_wp2_with fail
  (with_reducible refine (AL.out _).mono ?_)
  rintro e w1 ⟨rfl, h1⟩
  have H1 := Lib.hid h1
  clear h1 AL
  have zs : z.size = 384 := by rw [← Hz.out]; exact arrK_size _ _ _
  have cs : C.size = 384 := by rw [← HC.out]; exact arrK_size _ _ _
  have c1 : C.all (·.oneCell') = true := by rw [← HC.out]; exact arrK_one _ _ _
  have ic : (Try.prog.info? 65).map (·.size) = some C.size := by rw [cs]; kernel_rfl
  have SS := Lib.hid (And.intro zs (And.intro cs (And.intro c1 ic)))
  clear zs cs c1 ic
  go_upto_region 3 with (first
    | (refine wpList_store_row rfl 65 (.tmp 4) (.tmp 11) rfl w1.heap.size C rfl rfl _ _ (heap_alloc_new w1 _) SS.out.2.2.2 (SS.out.1.trans SS.out.2.1.symm) SS.out.2.2.1 ?_)
    | simp only [Z.out]
    | simp only [Z9.out])
  have R1 : ((w1.alloc (.cells z 65)).setRow w1.heap.size C).heap[w1.heap.size]? = some (.cells (arrK .i64 384 tabN) 65 (0, 0)) := by
    rw [HC.out]
    exact setRow_heap _ _ _ _ _ _ (heap_alloc_new w1 _)
  have B1 := below_setRow (ba H1.out (.cells z 65)) H1.out.size C
  have s1 : ((w1.alloc (.cells z 65)).setRow w1.heap.size C).heap.size = w1.heap.size + 1 := by simp [World.setRow]
  obtain ⟨wa, hwa⟩ : ∃ wa, (w1.alloc (.cells z 65)).setRow w1.heap.size C = wa := ⟨_, rfl⟩
  rw [hwa] at R1 B1 s1 ⊢
  obtain ⟨D, hD⟩ : ∃ D, w1.heap.size = D := ⟨_, rfl⟩
  have nD : w.heap.size ≤ D := by rw [← hD]; exact H1.out.size
  rw [hD] at R1 s1 ⊢
  have T1 := cel_of_row (show RowK .i64 384 65 wa D tabN from R1)
  have z9c : ∀ c, c < 128 → z9[c]? = some (svF f M 0 T c) := fun c hc => by
    rw [sv_zero, ← Hz9.out, arrK_get _ _ _ _ hc]
    rfl
  have G1 := Cel.new wa z9 69 z9c
  have G2 := Cel.new (wa.alloc (.cells z9 69)) z9 69 z9c
  rw [World.size_alloc, s1] at G2
  rw [s1] at G1
  have T3 := (T1.alloc (.cells z9 69)).alloc (.cells z9 69)
  have G3 := G1.alloc (.cells z9 69)
  have B3 := ba (ba B1 (.cells z9 69)) (.cells z9 69)
  have s3 : ((wa.alloc (.cells z9 69)).alloc (.cells z9 69)).heap.size = D + 3 := by rw [World.size_alloc, World.size_alloc, s1]
  obtain ⟨wb, hwb⟩ : ∃ wb, (wa.alloc (.cells z9 69)).alloc (.cells z9 69) = wb := ⟨_, rfl⟩
  rw [hwb] at T3 G3 G2 B3 s3 ⊢
  have E4 := Cel.new wb (madeCells (Value.agg (arrK .u8 64 (fun _ => 0))).cells (M * 64)) 74 (n := M * 64) (f := rowF f M T T) (fun c hc => by rw [row_none f M T c hc (by omega)]; exact made_bits M c hc)
  rw [s3] at E4
  have I0 := Lib.hid (show SrI f M T D (D + 1) (D + 1 + 1) (D + 3) w.heap.size w (svF f M 0 T) (svF f M 0 T) T (wb.alloc (.cells (madeCells (Value.agg (arrK .u8 64 (fun _ => 0))).cells (M * 64)) 74)) from ⟨T3.alloc _, G3.alloc _, G2.alloc _, E4, ba B3 _⟩)
  have S3 := Lib.hid s3
  obtain ⟨mz, hmz⟩ : ∃ mz, madeCells (Value.agg (arrK .u8 64 (fun _ => 0))).cells (M * 64) = mz := ⟨_, rfl⟩
  rw [hmz] at I0
  have Hmz := Lib.hid hmz
  clear T3 G3 G2 B3 s3 E4 T1 G1 R1 B1 s1 hwb hwa hD Z Z9 Hz Hz9 z9c SS H1 hmz wa w1 z9 z HC
  go_upto_region 4 with (at_make; refine wpList_make_z rfl _ _ 47 74 rfl (.agg (arrK .u8 64 (fun _ => 0))) 64 64 Try.underlying47 info_bits M rfl rfl (by omega) (by omega) ?_; rw [S3.out, Hmz.out])
  go_wp2_with fail
  go_loopw [8] (fun x wr => ∃ k : Nat, k ≤ T ∧ x = .int .i64 ((T : Int) - 1 - (k : Int)) ∧ SrI f M T D (D + 1) (D + 1 + 1) (D + 3) w.heap.size w (svF f M k (T - k)) (svF f M k (T - k)) (T - k) wr) (fun x _ => (intOf x + 1).toNat)
  case atStart => exact ⟨0, Nat.zero_le _, by simp, by rw [Nat.sub_zero]; exact I0.out⟩
  case round =>
    obtain ⟨k, hk, hx, hI⟩ := hrel
    by_cases hlt : k < T
    · obtain ⟨i, hi⟩ : ∃ i, i = T - 1 - k := ⟨_, rfl⟩
      have hTi : T = i + 1 + k := by omega
      rw [show (T : Int) - 1 - (k : Int) = (i : Int) by omega] at hx
      subst hx
      rw [show T - k = i + 1 by omega] at hI
      have HI := Lib.hid hI
      have HTi := Lib.hid hTi
      have hi5 : i ≤ 100000 := by omega
      clear hI hi I0 hk hTi
      have t1 : decide ((0 : Int) ≤ (i : Int)) = true := by simp
      by_cases hM : i < M
      · have t2 : decide ((M : Int) ≤ (i : Int)) = false := by simp; omega
        have Q := Lib.hid (show 2 = if i < M then 2 else 1 from (if_pos hM).symm)
        go_wp2_with fail
        go_loopw [29] (fun x wr => ∃ j : Nat, j ≤ 64 ∧ x = .int .i64 (j : Nat) ∧ SrI f M T D (D + 1) (D + 1 + 1) (D + 3) w.heap.size w (svF f M k (i + 1)) (mixF f M k i j) (i + 1) wr) (fun x _ => 64 - (intOf x).toNat)
        case atStart => exact ⟨0, Nat.zero_le _, rfl, HI.out.congr (fun c _ => by unfold mixF; rw [if_neg (Nat.not_lt_zero _)])⟩
        case round =>
          obtain ⟨j, hj, rfl, hJ⟩ := hrel
          have HJ := Lib.hid hJ
          clear hJ HI
          by_cases hlj : j < 64
          · have t3 : decide ((j : Int) < 64) = true := by simp; omega
            go_upto_region 13 with fail
            refine seRegion j 2 i (2 * i) D (D + 1) (D + 1 + 1) sb so N cap #[.int .i64 (Vit.bbit f M (k + 1) i j : Nat), .int .i64 (Vit.bsum f M (k + 1) i j)] hlj (by omega) hi5 rfl (by have := HN2.out; have := HTi.out; omega) hcap
              (fun w' hb => best_in Hsb.out (Nat.le_refl _) HS.out HF.out k i j 2 (2 * i) HTi.out HN2.out (by omega) hlj Q.out rfl _ w' (HJ.out.below HJ.out.bel.size hb)) (by kernel_rfl) rfl rfl rfl rfl rfl rfl rfl rfl rfl rfl rfl rfl rfl rfl rfl rfl rfl rfl rfl ?_
            intro w2 B2
            simp only [Act.put, List.setIfInBounds_toArray, List.set_cons_succ, List.set_cons_zero, List.drop_succ_cons, List.drop_zero]
            have J2 := HJ.out.below HJ.out.bel.size B2
            refine wpList_store_mid rfl 68 (.tmp 42) (.tmp 41) rfl (D + 1 + 1) (j * 2) #[.int .i64 (Vit.bbit f M (k + 1) i j : Nat), .int .i64 (Vit.bsum f M (k + 1) i j)] rfl rfl (J2.ahd.there (j * 2) 2 (by omega)) iSv (by simp [Value.oneCell']) ?_
            refine wpList_nil ?_
            have J3 := Lib.hid (mix_next (D := D) (H := D + 1) (G := D + 1 + 1) (E := D + 3) (by omega) (by omega) hlj J2 (by omega))
            obtain ⟨w3, hw3⟩ : ∃ w3, w2.setCells (D + 1 + 1) (j * 2) [.int .i64 (Vit.bbit f M (k + 1) i j : Nat), .int .i64 (Vit.bsum f M (k + 1) i j)] = w3 := ⟨_, rfl⟩
            rw [hw3] at J3
            simp only [Act.put]
            rw [hw3]
            obtain ⟨y, hy⟩ : ∃ y, Vit.bbit f M (k + 1) i j = y := ⟨_, rfl⟩
            rw [hy]
            clear hw3 J2 B2 HJ hy Q
            go_wp2_with fail
            go_roundw
            case rel => exact ⟨j + 1, by omega, by go_num, J3.out⟩
            case measure => simp [intOf]; omega
          · obtain rfl : j = 64 := by omega
            have t3 : decide (((64 : Nat) : Int) < 64) = false := by simp
            go_upto_region 15 with fail
            refine cyRegion (D + 1) (D + 1 + 1) (by kernel_rfl) rfl rfl rfl rfl rfl ?_
            intro w2 B2
            simp only [Act.put, List.setIfInBounds_toArray, List.set_cons_succ, List.set_cons_zero, List.drop_succ_cons, List.drop_zero]
            have J2 := HJ.out.below HJ.out.bel.size B2
            have J3 := Lib.hid (copy_next (D := D) (H := D + 1) (G := D + 1 + 1) (E := D + 3) (by omega) (by omega) (by omega) J2 (by omega))
            refine wpList_copy_many rfl (.tmp 44) (.tmp 45) 73 73 rfl 68 2 Try.underlying73 iSv (D + 1) 0 64 64 ⟨D + 1 + 1, 0, none⟩ 64 64 64 rfl rfl ((List.range 128).map (svF f M (k + 1) i)) rfl (by simp) (copy_src J2) (J2.beh.there 0 _ (by simp)) (copy_one f M k i) ?_
            refine wpList_nil ?_
            obtain ⟨w3, hw3⟩ : ∃ w3, w2.setCells (D + 1) 0 ((List.range 128).map (svF f M (k + 1) i)) = w3 := ⟨_, rfl⟩
            rw [hw3] at J3
            simp only [Act.put, goInt]
            rw [hw3]
            clear hw3 J2 B2 HJ Q
            have t4 : decide ((i : Int) < (M : Int)) = true := by simp; omega
            have FB := Lib.hid (fun w' (h : SrI f M T D (D + 1) (D + 1 + 1) (D + 3) w.heap.size w (svF f M (k + 1) i) (svF f M (k + 1) i) (i + 1) w') => bits_in h)
            obtain ⟨bv, hbv⟩ : ∃ bv, arrK .u8 64 (Vit.bbit f M (k + 1) i) = bv := ⟨_, rfl⟩
            rw [hbv] at FB
            have Hbv := Lib.hid hbv
            have zb : bv.size = 64 := by rw [← hbv]; exact arrK_size _ _ _
            have ib : (Try.prog.info? 74).map (·.size) = some bv.size := by rw [← hbv]; exact iBits _
            have ob : bv.all (·.oneCell') = true := by rw [← hbv]; exact arrK_one _ _ _
            have SB := Lib.hid (And.intro zb (And.intro ib ob))
            clear hbv zb ib ob
            have i0 : (0 : Int) ≤ (i : Int) := by omega
            have i1 : (i : Int) < (M : Int) := by omega
            go_wp2_with fail
            (with_reducible refine (FB.out _ J3.out).mono ?_)
            rintro e w4 ⟨rfl, B4⟩
            have J4 := J3.out.below J3.out.bel.size B4
            have J5 := Lib.hid (row_next (D := D) (H := D + 1) (G := D + 1 + 1) (E := D + 3) HTi.out hM (by omega) (by omega) (by omega) J4 (by omega))
            rw [Hbv.out] at J5
            have TH := Lib.hid (J4.bts.there (i * 64) 64 (by omega))
            clear B4 J4 J3 FB
            go_wp2_with (refine wpList_store_mid rfl 74 (.tmp 54) (.tmp 53) rfl (D + 3) (i * 64) bv rfl rfl (by rw [SB.out.1]; exact TH.out) SB.out.2.1 SB.out.2.2 ?_)
            obtain ⟨w5, hw5⟩ : ∃ w5, w4.setCells (D + 3) (i * 64) bv.toList = w5 := ⟨_, rfl⟩
            rw [hw5] at J5 ⊢
            clear hw5 TH SB Hbv
            go_wp2_with fail
            have xe : Value.int .i64 ((i : Int) - 1) = .int .i64 ((T : Int) - 1 - ((k + 1 : Nat) : Int)) := by rw [show (T : Int) - 1 - ((k + 1 : Nat) : Int) = (i : Int) - 1 by have := HTi.out; omega]
            have ie : SrI f M T D (D + 1) (D + 1 + 1) (D + 3) w.heap.size w (svF f M (k + 1) (T - (k + 1))) (svF f M (k + 1) (T - (k + 1))) (T - (k + 1)) w5 := by rw [show T - (k + 1) = i by have := HTi.out; omega]; exact J5.out
            have ke : k + 1 ≤ T := by have := HTi.out; omega
            go_roundw
            case rel => exact ⟨k + 1, ke, xe, ie⟩
            case measure => simp [intOf]
      · have t2 : decide ((M : Int) ≤ (i : Int)) = true := by simp; omega
        have Q := Lib.hid (show 1 = if i < M then 2 else 1 from (if_neg hM).symm)
        go_wp2_with fail
        go_loopw [29] (fun x wr => ∃ j : Nat, j ≤ 64 ∧ x = .int .i64 (j : Nat) ∧ SrI f M T D (D + 1) (D + 1 + 1) (D + 3) w.heap.size w (svF f M k (i + 1)) (mixF f M k i j) (i + 1) wr) (fun x _ => 64 - (intOf x).toNat)
        case atStart => exact ⟨0, Nat.zero_le _, rfl, HI.out.congr (fun c _ => by unfold mixF; rw [if_neg (Nat.not_lt_zero _)])⟩
        case round =>
          obtain ⟨j, hj, rfl, hJ⟩ := hrel
          have HJ := Lib.hid hJ
          clear hJ HI
          by_cases hlj : j < 64
          · have t3 : decide ((j : Int) < 64) = true := by simp; omega
            go_upto_region 13 with fail
            refine seRegion j 1 i (2 * i) D (D + 1) (D + 1 + 1) sb so N cap #[.int .i64 (Vit.bbit f M (k + 1) i j : Nat), .int .i64 (Vit.bsum f M (k + 1) i j)] hlj (by omega) hi5 rfl (by have := HN2.out; have := HTi.out; omega) hcap
              (fun w' hb => best_in Hsb.out (Nat.le_refl _) HS.out HF.out k i j 1 (2 * i) HTi.out HN2.out (by omega) hlj Q.out rfl _ w' (HJ.out.below HJ.out.bel.size hb)) (by kernel_rfl) rfl rfl rfl rfl rfl rfl rfl rfl rfl rfl rfl rfl rfl rfl rfl rfl rfl rfl rfl ?_
            intro w2 B2
            simp only [Act.put, List.setIfInBounds_toArray, List.set_cons_succ, List.set_cons_zero, List.drop_succ_cons, List.drop_zero]
            have J2 := HJ.out.below HJ.out.bel.size B2
            refine wpList_store_mid rfl 68 (.tmp 42) (.tmp 41) rfl (D + 1 + 1) (j * 2) #[.int .i64 (Vit.bbit f M (k + 1) i j : Nat), .int .i64 (Vit.bsum f M (k + 1) i j)] rfl rfl (J2.ahd.there (j * 2) 2 (by omega)) iSv (by simp [Value.oneCell']) ?_
            refine wpList_nil ?_
            have J3 := Lib.hid (mix_next (D := D) (H := D + 1) (G := D + 1 + 1) (E := D + 3) (by omega) (by omega) hlj J2 (by omega))
            obtain ⟨w3, hw3⟩ : ∃ w3, w2.setCells (D + 1 + 1) (j * 2) [.int .i64 (Vit.bbit f M (k + 1) i j : Nat), .int .i64 (Vit.bsum f M (k + 1) i j)] = w3 := ⟨_, rfl⟩
            rw [hw3] at J3
            simp only [Act.put]
            rw [hw3]
            obtain ⟨y, hy⟩ : ∃ y, Vit.bbit f M (k + 1) i j = y := ⟨_, rfl⟩
            rw [hy]
            clear hw3 J2 B2 HJ hy Q
            go_wp2_with fail
            go_roundw
            case rel => exact ⟨j + 1, by omega, by go_num, J3.out⟩
            case measure => simp [intOf]; omega
          · obtain rfl : j = 64 := by omega
            have t3 : decide (((64 : Nat) : Int) < 64) = false := by simp
            go_upto_region 15 with fail
            refine cyRegion (D + 1) (D + 1 + 1) (by kernel_rfl) rfl rfl rfl rfl rfl ?_
            intro w2 B2
            simp only [Act.put, List.setIfInBounds_toArray, List.set_cons_succ, List.set_cons_zero, List.drop_succ_cons, List.drop_zero]
            have J2 := HJ.out.below HJ.out.bel.size B2
            have J3 := Lib.hid (copy_next (D := D) (H := D + 1) (G := D + 1 + 1) (E := D + 3) (by omega) (by omega) (by omega) J2 (by omega))
            refine wpList_copy_many rfl (.tmp 44) (.tmp 45) 73 73 rfl 68 2 Try.underlying73 iSv (D + 1) 0 64 64 ⟨D + 1 + 1, 0, none⟩ 64 64 64 rfl rfl ((List.range 128).map (svF f M (k + 1) i)) rfl (by simp) (copy_src J2) (J2.beh.there 0 _ (by simp)) (copy_one f M k i) ?_
            refine wpList_nil ?_
            obtain ⟨w3, hw3⟩ : ∃ w3, w2.setCells (D + 1) 0 ((List.range 128).map (svF f M (k + 1) i)) = w3 := ⟨_, rfl⟩
            rw [hw3] at J3
            simp only [Act.put, goInt]
            rw [hw3]
            clear hw3 J2 B2 HJ Q
            have t4 : decide ((i : Int) < (M : Int)) = false := by simp; omega
            have J5 := Lib.hid (row_same J3.out (Nat.le_of_not_lt hM))
            clear J3
            go_wp2_with fail
            have xe : Value.int .i64 ((i : Int) - 1) = .int .i64 ((T : Int) - 1 - ((k + 1 : Nat) : Int)) := by rw [show (T : Int) - 1 - ((k + 1 : Nat) : Int) = (i : Int) - 1 by have := HTi.out; omega]
            have ie : SrI f M T D (D + 1) (D + 1 + 1) (D + 3) w.heap.size w (svF f M (k + 1) (T - (k + 1))) (svF f M (k + 1) (T - (k + 1))) (T - (k + 1)) w3 := by rw [show T - (k + 1) = i by have := HTi.out; omega]; exact J5.out
            have ke : k + 1 ≤ T := by have := HTi.out; omega
            go_roundw
            case rel => exact ⟨k + 1, ke, xe, ie⟩
            case measure => simp [intOf]
    · obtain rfl : k = T := by omega
      subst hx
      rw [Nat.sub_self] at hI
      have t1 : decide ((0 : Int) ≤ (k : Int) - 1 - (k : Int)) = false := by simp; omega
      have c1 := hI.beh.cell (j := 1) (by omega)
      rw [show svF f M k 0 1 = .int .i64 (Vit.bsum f M k 0 0) from rfl] at c1
      have HI := Lib.hid hI
      obtain ⟨y, hy⟩ : ∃ y, Vit.bsum f M k 0 0 = y := ⟨_, rfl⟩
      rw [hy] at c1
      have HY := Lib.hid hy
      clear hI hy I0
      go_wp2_with fail
      go_quiet (fail)
      go_wp2_with fail
      go_ret2
      exact ⟨D + 3, by rw [HY.out]; rfl, HI.out.bts, below_drewN HI.out.bel _⟩
end Go.Proofs.Ytgfihljledmaaaa
