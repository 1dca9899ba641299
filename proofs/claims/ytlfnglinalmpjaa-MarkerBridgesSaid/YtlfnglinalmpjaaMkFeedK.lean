/- Layer 8: what the walk of the reference's Feed needs: worlds that differ in some blocks, lists of blocks in memory, the drawn region. -/
import Derived.Test.YtlfnglinalmpjaaMkNew
import Derived.Deep.MidRow
namespace Go.Proofs.Ytlfnglinalmpjaa
open Go.RowKit
set_option linter.unusedVariables false

/-- The worlds are the same but for some blocks and new ones. -/
structure Buts (S : Nat → Prop) (w w' : World) : Prop where
  os : w'.os = w.os
  tape : w'.tape = w.tape
  output : w'.output = w.output
  size : w.heap.size ≤ w'.heap.size
  block : ∀ k, k < w.heap.size → ¬ S k → w'.heap[k]? = w.heap[k]?
namespace Buts
variable {S T : Nat → Prop} {w w1 w2 : World}
theorem refl (S : Nat → Prop) (w : World) : Buts S w w := ⟨rfl, rfl, rfl, Nat.le_refl _, fun _ _ _ => rfl⟩
theorem trans (h : Buts S w w1) (k : Buts S w1 w2) : Buts S w w2 := ⟨k.os.trans h.os, k.tape.trans h.tape, k.output.trans h.output, Nat.le_trans h.size k.size, fun c hc hs => (k.block c (Nat.lt_of_lt_of_le hc h.size) hs).trans (h.block c hc hs)⟩
/-- What is new to the first world may change in the second step. -/
theorem then_new (h : Buts S w w1) (k : Buts T w1 w2) (hT : ∀ c, c < w.heap.size → T c → S c) : Buts S w w2 := ⟨k.os.trans h.os, k.tape.trans h.tape, k.output.trans h.output, Nat.le_trans h.size k.size, fun c hc hs => (k.block c (Nat.lt_of_lt_of_le hc h.size) (fun ht => hs (hT c hc ht))).trans (h.block c hc hs)⟩
theorem mono (h : Buts S w w1) (hs : ∀ c, S c → T c) : Buts T w w1 := ⟨h.os, h.tape, h.output, h.size, fun c hc ht => h.block c hc (fun q => ht (hs c q))⟩
theorem of_below (h : Below w.heap.size w w1) : Buts S w w1 := ⟨h.os, h.tape, h.output, h.size, fun c hc _ => h.block c hc⟩
theorem of_but {c : Nat} (h : But c w w1) (hc : S c) : Buts S w w1 := ⟨h.below.os, h.below.tape, h.below.output, h.below.size, fun k hk hs => h.rest k hk (fun e => hs (e ▸ hc))⟩
theorem of_grown {row : Option Nat} (h : w.grownBy w1 row) (hr : ∀ k, row = some k → S k) : Buts S w w1 := ⟨h.os, h.tape, h.output, h.size, fun k hk hs => h.block k hk (fun e => hs (hr k e.symm))⟩
theorem below {B : Nat} {w0 : World} (h0 : Below B w0 w) (h : Buts S w w1) (hs : ∀ c, S c → B ≤ c) (hb : B ≤ w.heap.size) : Below B w0 w1 := h0.trans ⟨h.os, h.tape, h.output, h.size, fun k hk => h.block k (Nat.lt_of_lt_of_le hk hb) (fun q => by have := hs k q; omega)⟩
end Buts
/-- Lists of blocks as cells: places, wrong bits, values. -/
def BlkC (w : World) (n1 : Nat) : List (Nat × Nat × List Int) → List Value → Prop
  | [], cs => cs = []
  | x :: r, cs => ∃ sv cs', cs = .int .i64 (x.1 : Nat) :: .int .i64 (x.2.1 : Nat) :: sv :: cs' ∧ w.ownsRow n1 3 1 sv x.2.2.length (x.2.2.map (Value.int .i64)) ∧ BlkC w n1 r cs'
theorem BlkC.snoc {w : World} {n1 : Nat} {p k : Nat} {zs : List Int} {sv : Value} (hv : w.ownsRow n1 3 1 sv zs.length (zs.map (Value.int .i64))) : ∀ {l : List (Nat × Nat × List Int)} {cs : List Value}, BlkC w n1 l cs → BlkC w n1 (l ++ [(p, k, zs)]) (cs ++ [.int .i64 (p : Nat), .int .i64 (k : Nat), sv])
  | [], cs, h => by
    have h' : cs = [] := h
    subst h'
    exact ⟨sv, [], rfl, hv, rfl⟩
  | x :: r, cs, ⟨s, cs', e, ho, h⟩ => by
    subst e
    exact ⟨s, _, rfl, ho, BlkC.snoc hv h⟩
theorem BlkC.keep {w w' : World} {n1 : Nat} (hk : ∀ g cur fr, n1 ≤ g → w.heap[g]? = some (.cells cur 3 fr) → w'.heap[g]? = w.heap[g]?) : ∀ {l : List (Nat × Nat × List Int)} {cs : List Value}, BlkC w n1 l cs → BlkC w' n1 l cs
  | [], cs, h => h
  | x :: r, cs, ⟨s, cs', e, ho, h⟩ => by
    refine ⟨s, cs', e, ?_, BlkC.keep hk h⟩
    obtain ⟨hl, ho⟩ := ho
    refine ⟨hl, ?_⟩
    rcases ho with q | ⟨g, c, cur, q1, q2, q3, q4⟩
    · exact .inl q
    · exact .inr ⟨g, c, cur, q1, q2, (hk g cur _ q2 q3).trans q3, q4⟩
theorem BlkC.len {w : World} {n1 : Nat} : ∀ {l : List (Nat × Nat × List Int)} {cs : List Value}, BlkC w n1 l cs → cs.length = l.length * 3
  | [], cs, h => by
    have h' : cs = [] := h
    subst h'
    rfl
  | x :: r, cs, ⟨s, cs', e, ho, h⟩ => by
    subst e
    have := BlkC.len h
    simp only [List.length_cons]
    omega
section
variable {P : Program}
/-- append to a row of one's own, and where the row lies then. -/
theorem run_append_own2 (w : World) (base : Nat) (t ty e : TypeId) (i : TypeInfo) (z : Value) (size bytes : Nat) (ht : P.underlying t = some (.slice e)) (hi : P.info? e = some i) (hz : i.zero = some z)
    (hsize : i.size = size) (hby : i.bytes = bytes) (hzs : z.cells.size = size) (hsz : 0 < size)
    (v : Value) (n : Nat) (xs : List Value) (hown : w.ownsRow base e size v n xs)
    (a : Addr) (m c : Nat) (news : List Value) (hl : news.length = m * size) (hnews : ∀ j u, news[j]? = some u → w.cell? (a.add j) = some u) (h1 : ∀ u ∈ news, u.oneCell' = true)
    (h63 : n + m ≤ maxLen) (hbytes : (n + m) * bytes ≤ 140737488355328) (hbase : base ≤ w.heap.size) :
    ∃ v' w', (Builtin.append_ #[t, t] ty #[v, .slice (some a) m c]).run P w = .ok v' w' ∧ w'.ownsRow base e size v' (n + m) (xs ++ news) ∧ w.grownBy w' v.ownBlock ∧ (v'.ownBlock = v.ownBlock ∨ v'.ownBlock = some w.heap.size) := by
  obtain ⟨v', w', hr, h2, h3, _⟩ := run_append_own (P := P) w base t ty e i z size bytes ht hi hz hsize hby hzs hsz v n xs hown a m c news hl hnews h1 h63 hbytes hbase
  refine ⟨v', w', hr, h2, h3, ?_⟩
  have hsmall : n + m ≤ 9223372036854775807 := by simp only [maxLen] at h63; omega
  subst hsize
  subst hby
  rcases hown.2 with ⟨rfl, rfl⟩ | ⟨g, cap, cur, rfl, hbg, hg, hnc, hcm, hcs, htake⟩
  · by_cases hm : m = 0
    · subst hm
      have hn : news = [] := List.eq_nil_of_length_eq_zero (by simpa using hl)
      subst hn
      have e0 : (Builtin.append_ #[t, t] ty #[.slice none 0 0, .slice (some a) 0 c]).run P w = .ok (.slice none 0 0) w := by
        simp [Builtin.append_, run_underlying ht, sizeOf, typeInfo, hi, Builtin.lenOf, Builtin.firstCells, loadCells, loadCellsFrom]
      rw [e0] at hr
      cases hr
      exact .inl rfl
    · have e0 := run_append_nil (P := P) w t ty e i z ht hi hz a m c news hl hnews (by omega) (by omega) (by have hb := hbytes; simp only [Nat.zero_add] at hb; omega)
      rw [e0] at hr
      cases hr
      exact .inr rfl
  · by_cases hroom : n + m ≤ cap
    · have hfit : n * i.size + news.length ≤ cur.size := by rw [hl, hcs, ← Nat.add_mul]; exact Nat.mul_le_mul_right _ hroom
      have e0 := run_append_room (P := P) w t ty e i ht hi g n cap cur hg a m c news hl hnews h1 hroom hfit
      rw [e0] at hr
      cases hr
      exact .inl rfl
    · have holds : ∀ j u, xs[j]? = some u → w.cell? ((⟨g, 0, none⟩ : Addr).add j) = some u := hown.cells (g := g) rfl
      have e0 := run_append_grow (P := P) w t ty e i z ht hi hz ⟨g, 0, none⟩ n cap xs hown.1 holds a m c news hl hnews (by omega) (by omega) (growslice_fits (by omega) hbytes)
      rw [e0] at hr
      cases hr
      exact .inr rfl
theorem wpList_append_own2 {w : World} {ops : Array Oper} {rest : List Oper} {o : Oper} {a : Act} {Q : Exit → Act → World → Prop} (hgd : o.guard = none) (s x : Operand) (t : TypeId)
    (ho : o.op = .call { callee := .builtin .append, args := #[s, x], argTypes := #[t, t] })
    (base : Nat) (e : TypeId) (i : TypeInfo) (z : Value) (size bytes : Nat) (ht : P.underlying t = some (.slice e)) (hi : P.info? e = some i) (hz : i.zero = some z)
    (hsize : i.size = size) (hby : i.bytes = bytes) (hzs : z.cells.size = size) (hsz : 0 < size)
    (v : Value) (n : Nat) (xs : List Value) (hs : a.eval s = v) (hown : w.ownsRow base e size v n xs)
    (ad : Addr) (m c : Nat) (news : List Value) (hx : a.eval x = .slice (some ad) m c) (hl : news.length = m * size) (hnews : ∀ j u, news[j]? = some u → w.cell? (ad.add j) = some u) (h1 : ∀ u ∈ news, u.oneCell' = true)
    (h63 : n + m ≤ maxLen) (hbytes : (n + m) * bytes ≤ 140737488355328) (hbase : base ≤ w.heap.size)
    (h : ∀ v' w', w'.ownsRow base e size v' (n + m) (xs ++ news) → w.grownBy w' v.ownBlock → (v'.ownBlock = v.ownBlock ∨ v'.ownBlock = some w.heap.size) → wpList P ops Q rest (a.put o.dst v') w') : wpList P ops Q (o :: rest) a w :=
  wpList_plain hgd fun K hK => by
    obtain ⟨v', w', hr, h2, h3, h4⟩ := run_append_own2 (P := P) w base t o.type e i z size bytes ht hi hz hsize hby hzs hsz v n xs hown ad m c news hl hnews h1 h63 hbytes hbase
    unfold Oper.wp execOp
    simp only [ho, resolve, invoke, builtin, Sem.run_bind, Sem.run_pure, Result.andThen_ok, List.map_toArray, List.map_cons, List.map_nil, hs, hx, hr]
    exact hK _ _ (h v' w' h2 h3 h4)
/-- An append of nothing out of no memory. -/
theorem run_append_owned_nil {w : World} (base : Nat) (t ty e : TypeId) (i : TypeInfo) (size : Nat) (ht : P.underlying t = some (.slice e)) (hi : P.info? e = some i)
    (v : Value) (n : Nat) (xs : List Value) (hown : w.ownsRow base e size v n xs) (c : Nat) :
    (Builtin.append_ #[t, t] ty #[v, .slice none 0 c]).run P w = .ok v w := by
  rcases hown.2 with ⟨rfl, rfl⟩ | ⟨g, cap, cur, rfl, _, _, hnc, _⟩
  · simp [Builtin.append_, run_underlying ht, sizeOf, typeInfo, hi, Builtin.lenOf, Builtin.firstCells]
  · simp [Builtin.append_, run_underlying ht, sizeOf, typeInfo, hi, Builtin.lenOf, Builtin.firstCells, hnc, storeCells]
theorem wpList_append_own2_any {w : World} {ops : Array Oper} {rest : List Oper} {o : Oper} {a : Act} {Q : Exit → Act → World → Prop} (hgd : o.guard = none) (s x : Operand) (t : TypeId)
    (ho : o.op = .call { callee := .builtin .append, args := #[s, x], argTypes := #[t, t] })
    (base : Nat) (e : TypeId) (i : TypeInfo) (z : Value) (size bytes : Nat) (ht : P.underlying t = some (.slice e)) (hi : P.info? e = some i) (hz : i.zero = some z)
    (hsize : i.size = size) (hby : i.bytes = bytes) (hzs : z.cells.size = size) (hsz : 0 < size)
    (v : Value) (n : Nat) (xs : List Value) (hs : a.eval s = v) (hown : w.ownsRow base e size v n xs)
    (ao : Option Addr) (m c : Nat) (news : List Value) (hx : a.eval x = .slice ao m c) (hl : news.length = m * size) (hnone : ao = none → m = 0) (hnews : ∀ ad, ao = some ad → ∀ j u, news[j]? = some u → w.cell? (ad.add j) = some u) (h1 : ∀ u ∈ news, u.oneCell' = true)
    (h63 : n + m ≤ maxLen) (hbytes : (n + m) * bytes ≤ 140737488355328) (hbase : base ≤ w.heap.size)
    (h : ∀ v' w', w'.ownsRow base e size v' (n + m) (xs ++ news) → w.grownBy w' v.ownBlock → (v'.ownBlock = v.ownBlock ∨ v'.ownBlock = some w.heap.size) → wpList P ops Q rest (a.put o.dst v') w') : wpList P ops Q (o :: rest) a w := by
  cases ao with
  | some ad => exact wpList_append_own2 hgd s x t ho base e i z size bytes ht hi hz hsize hby hzs hsz v n xs hs hown ad m c news hx hl (hnews ad rfl) h1 h63 hbytes hbase h
  | none =>
    obtain rfl := hnone rfl
    have hn : news = [] := List.eq_nil_of_length_eq_zero (by simpa using hl)
    subst hn
    refine wpList_plain hgd fun K hK => ?_
    have hr := run_append_owned_nil (P := P) base t o.type e i size ht hi v n xs hown c
    unfold Oper.wp execOp
    simp only [ho, resolve, invoke, builtin, Sem.run_bind, Sem.run_pure, Result.andThen_ok, List.map_toArray, List.map_cons, List.map_nil, hs, hx, hr]
    exact hK _ _ (h v w (by simpa using hown) ⟨rfl, rfl, rfl, Nat.le_refl _, fun _ _ _ => rfl⟩ (.inl rfl))
end
/-- A slice of one's own. -/
theorem own_is {w : World} {base e size n : Nat} {v : Value} {xs : List Value} (h : w.ownsRow base e size v n xs) : ∃ a cap, v = .slice a n cap := by
  rcases h.2 with ⟨rfl, rfl⟩ | ⟨g, c, _, rfl, _⟩
  · exact ⟨_, _, rfl⟩
  · exact ⟨_, _, rfl⟩
/-- A slice with no room. -/
def Emp0 (v : Value) (w : World) : Prop := ∃ B, v = .slice (some ⟨B, 0, none⟩) 0 0
theorem Emp0.mono {v : Value} {w w' : World} (h : Emp0 v w) (hb : Below w.heap.size w w') : Emp0 v w' := h
theorem emp0_new (B : Nat) (w : World) : Emp0 (.slice (some ⟨B, 0, none⟩) 0 0) w := ⟨_, rfl⟩
/-- Numbers in memory of one's own. -/
def OwnI (n0 m : Nat) (news : List Value) (v : Value) (w : World) : Prop := w.ownsRow n0 3 1 v m news
theorem OwnI.mono {n0 m : Nat} {news : List Value} {v : Value} {w w' : World} (h : OwnI n0 m news v w) (hb : Below w.heap.size w w') : OwnI n0 m news v w' := own_below h hb
/-- A block as a value. -/
def BkV (n0 m : Nat) (news : List Value) (p wr : Nat) (v : Value) (w : World) : Prop := ∃ sv, v = .agg #[.int .i64 (p : Nat), .int .i64 (wr : Nat), sv] ∧ OwnI n0 m news sv w
theorem BkV.mono {n0 m p wr : Nat} {news : List Value} {v : Value} {w w' : World} (h : BkV n0 m news p wr v w) (hb : Below w.heap.size w w') : BkV n0 m news p wr v w' := by
  obtain ⟨sv, e, h⟩ := h
  exact ⟨sv, e, h.mono hb⟩
/-- A slice of one block. -/
def BkS (n0 m : Nat) (news : List Value) (p wr : Nat) (v : Value) (w : World) : Prop := ∃ B sa sc, v = .slice (some ⟨B, 0, none⟩) 1 1 ∧ B < w.heap.size ∧ (∀ j u, ([.int .i64 (p : Nat), .int .i64 (wr : Nat), .slice sa m sc] : List Value)[j]? = some u → w.cell? ⟨B, j, none⟩ = some u) ∧ OwnI n0 m news (.slice sa m sc) w
theorem BkS.mono {n0 m p wr : Nat} {news : List Value} {v : Value} {w w' : World} (h : BkS n0 m news p wr v w) (hb : Below w.heap.size w w') : BkS n0 m news p wr v w' := by
  obtain ⟨B, sa, sc, e, hl, hc, h⟩ := h
  exact ⟨B, sa, sc, e, Nat.lt_of_lt_of_le hl hb.size, fun j u hu => (hb.cell (p := ⟨B, j, none⟩) hl).trans (hc j u hu), h.mono hb⟩
theorem bkS_new {n0 m p wr : Nat} {news : List Value} {sa : Option Addr} {sc : Nat} (w : World) (h : OwnI n0 m news (.slice sa m sc) w) : BkS n0 m news p wr (.slice (some ⟨w.heap.size, 0, none⟩) 1 1) (w.alloc (.cells #[.int .i64 (p : Nat), .int .i64 (wr : Nat), .slice sa m sc] 50)) :=
  ⟨w.heap.size, sa, sc, rfl, by rw [World.size_alloc]; omega, fun j u hu => by rw [World.cell?_alloc_new]; simpa using hu, h.mono (ba (Below.refl _ _) _)⟩
section
variable {P : Program}
theorem step_to1x {Fact : Value → World → Prop} {o : Oper} {a : Act} {w w2 : World} {K : Act → World → Prop} {Q : Exit → Act → World → Prop} {v : Value} (hv : (execOp a.eval o).run P w = .ok (.value v) w2) (F : Fact v w2) (B : Below w.heap.size w w2)
    (h : ∀ v' w', Fact v' w' → Below w.heap.size w w' → K (a.put o.dst v') w') : o.wp P a w K Q := step_to1 hv (h v w2 F B)
end
/-- append([]int{}, l...) -/
theorem step_app0 {o : Oper} {a : Act} {w : World} {K : Act → World → Prop} {Q : Exit → Act → World → Prop} (s x : Operand) (ho : o.op = .call { callee := .builtin .append, args := #[s, x], argTypes := #[29, 29] })
    (n0 B : Nat) (hs : a.eval s = .slice (some ⟨B, 0, none⟩) 0 0) (g off m c : Nat) (news : List Value) (hx : a.eval x = .slice (some ⟨g, off, none⟩) m c) (hm : 0 < m) (hl : news.length = m)
    (hnews : ∀ j u, news[j]? = some u → w.cell? ((⟨g, off, none⟩ : Addr).add j) = some u) (h63 : m ≤ 1000000) (hbase : n0 ≤ w.heap.size)
    (h : ∀ v' w', OwnI n0 m news v' w' → Below w.heap.size w w' → K (a.put o.dst v') w') : o.wp Try.prog a w K Q := by
  obtain ⟨i0, hi0, hz0, hz1, hz2⟩ := info_parts info_i64
  have hr := run_append_grow (P := Try.prog) w 29 o.type 3 i0 (.int .i64 0) Try.underlying29 hi0 hz0 ⟨B, 0, none⟩ 0 0 [] (by simp) (fun j v hv => by simp at hv) ⟨g, off, none⟩ m c news (by rw [hz1, Nat.mul_one]; exact hl) hnews (by omega) (by omega) (by rw [nextslicecap_zero (by omega), hz2]; omega)
  simp only [Nat.zero_add] at hr
  unfold Oper.wp execOp
  simp only [ho, resolve, invoke, builtin, Sem.run_bind, Sem.run_pure, Result.andThen_ok, List.map_toArray, List.map_cons, List.map_nil, hs, hx, hr]
  have hge := grownCap_ge w m 0 3
  have hcm : grownCap w m 0 3 ≤ maxLen := grownCap_le_maxLen w m 0 3 (by unfold maxLen; omega)
  refine h _ _ ⟨by rw [Nat.mul_one]; exact hl, .inr ⟨w.heap.size, _, _, rfl, hbase, heap_alloc_new w.drew _, hge, hcm, ?_, ?_⟩⟩ (ba (Below.refl _ _).drew _)
  · simp only [Array.size_append, List.size_toArray, size_zeroCells, List.length_nil, hl]
    show 0 + m + _ * 1 = _
    omega
  · simp only [Array.toList_append, List.nil_append, Nat.mul_one]
    rw [← hl]
    exact List.take_left
structure FeRegion (b p wr g n cap p32 en m n0 : Nat) (ov : Value) (news : List Value) (A : Act) (w0 : World) (s : Nat → Bool) (a : Act) (w : World) : Prop where
  off : Off [43, 44, 45, 46, 47, 48, 49, 50, 51, 52, 53, 54, 55, 56, 57, 58, 59, 60, 61, 62, 63, 64, 65, 66] a A
  before : Below w0.heap.size w0 w
  t0 : s 0 = true → a.eval (.tmp 43) = ov
  t1 : s 1 = true → a.eval (.tmp 44) = .pointer (some ⟨b, 0, none⟩)
  t2 : s 2 = true → a.eval (.tmp 45) = .pointer (some ⟨b, 0, none⟩)
  t3 : s 3 = true → a.eval (.tmp 46) = .pointer (some ⟨b, 3, none⟩)
  t4 : s 4 = true → a.eval (.tmp 47) = .int .i64 (p : Nat)
  t5 : s 5 = true → a.eval (.tmp 48) = .pointer (some ⟨b, 0, none⟩)
  t6 : s 6 = true → a.eval (.tmp 49) = .pointer (some ⟨b, 0, none⟩)
  t7 : s 7 = true → a.eval (.tmp 50) = .pointer (some ⟨b, 5, none⟩)
  t8 : s 8 = true → a.eval (.tmp 51) = .int .i64 (wr : Nat)
  t9 : s 9 = true → ∃ v9, a.eval (.tmp 52) = v9 ∧ Emp0 v9 w
  t10 : s 10 = true → a.eval (.tmp 53) = .pointer (some ⟨b, 0, none⟩)
  t11 : s 11 = true → a.eval (.tmp 54) = .pointer (some ⟨b, 0, none⟩)
  t12 : s 12 = true → a.eval (.tmp 55) = .pointer (some ⟨b, 1, none⟩)
  t13 : s 13 = true → a.eval (.tmp 56) = .slice (some ⟨g, 0, none⟩) n cap
  t14 : s 14 = true → a.eval (.tmp 57) = .pointer (some ⟨b, 0, none⟩)
  t15 : s 15 = true → a.eval (.tmp 58) = .pointer (some ⟨b, 0, none⟩)
  t16 : s 16 = true → a.eval (.tmp 59) = .pointer (some ⟨b, 3, none⟩)
  t17 : s 17 = true → a.eval (.tmp 60) = .int .i64 (p : Nat)
  t18 : s 18 = true → a.eval (.tmp 61) = .int .i64 (p32 : Nat)
  t19 : s 19 = true → a.eval (.tmp 62) = .int .i64 (en : Nat)
  t20 : s 20 = true → a.eval (.tmp 63) = .slice (some ⟨g, p32, none⟩) m (cap - p32)
  t21 : s 21 = true → ∃ v21, a.eval (.tmp 64) = v21 ∧ OwnI n0 m news v21 w
  t22 : s 22 = true → ∃ v22, a.eval (.tmp 65) = v22 ∧ BkV n0 m news p wr v22 w
  t23 : s 23 = true → ∃ v23, a.eval (.tmp 66) = v23 ∧ BkS n0 m news p wr v23 w
set_option maxHeartbeats 2000000 in
set_option maxRecDepth 100000 in
theorem feRegion {id : Nat} {l : List Oper} {A : Act} {w : World} {Q : Exit → Act → World → Prop} (b p wr g n cap p32 en m n0 : Nat) (ov : Value) (news : List Value)
    (hp : p32 = p + 32) (he : en = p32 + m) (hn : en ≤ n) (hc : n ≤ cap) (hb9 : n ≤ 1000000000) (hm0 : 0 < m) (hm1 : m ≤ 1000000) (hnl : news.length = m) (hn0 : n0 ≤ w.heap.size)
    (lb : b < w.heap.size) (lg : g < w.heap.size)
    (c1 : w.cell? ⟨b, 1, none⟩ = some (.slice (some ⟨g, 0, none⟩) n cap)) (c3 : w.cell? ⟨b, 3, none⟩ = some (.int .i64 (p : Nat))) (c5 : w.cell? ⟨b, 5, none⟩ = some (.int .i64 (wr : Nat))) (hnews : ∀ j u, news[j]? = some u → w.cell? ⟨g, p32 + j, none⟩ = some u)
    (hB : tableH l.toArray 24 (fun i => match i with | 0 => [] | 1 => [] | 2 => [1] | 3 => [2] | 4 => [3] | 5 => [] | 6 => [5] | 7 => [6] | 8 => [7] | 9 => [] | 10 => [] | 11 => [10] | 12 => [11] | 13 => [12] | 14 => [] | 15 => [14] | 16 => [15] | 17 => [16] | 18 => [17] | 19 => [] | 20 => [13, 18, 19] | 21 => [9, 20] | 22 => [4, 8, 21] | 23 => [22] | _ => []) (fun _ => []) = true)
    (h0 : pick l 0 = some (.move (.tmp 6), some 43))
    (h1 : pick l 1 = some (.move (.tmp 0), some 44))
    (h2 : pick l 2 = some (.nilCheck (.tmp 44), some 45))
    (h3 : pick l 3 = some (.fieldAddr 46 (.tmp 45) 3, some 46))
    (h4 : pick l 4 = some (.load 3 (.tmp 46), some 47))
    (h5 : pick l 5 = some (.move (.tmp 0), some 48))
    (h6 : pick l 6 = some (.nilCheck (.tmp 48), some 49))
    (h7 : pick l 7 = some (.fieldAddr 46 (.tmp 49) 5, some 50))
    (h8 : pick l 8 = some (.load 3 (.tmp 50), some 51))
    (h9 : pick l 9 = some (.buildSlice 29 0 #[], some 52))
    (h10 : pick l 10 = some (.move (.tmp 0), some 53))
    (h11 : pick l 11 = some (.nilCheck (.tmp 53), some 54))
    (h12 : pick l 12 = some (.fieldAddr 46 (.tmp 54) 1, some 55))
    (h13 : pick l 13 = some (.load 29 (.tmp 55), some 56))
    (h14 : pick l 14 = some (.move (.tmp 0), some 57))
    (h15 : pick l 15 = some (.nilCheck (.tmp 57), some 58))
    (h16 : pick l 16 = some (.fieldAddr 46 (.tmp 58) 3, some 59))
    (h17 : pick l 17 = some (.load 3 (.tmp 59), some 60))
    (h18 : pick l 18 = some (.binOp .add 3 (.tmp 60) (.const (.int .i64 32)) 3, some 61))
    (h19 : pick l 19 = some (.move (.tmp 7), some 62))
    (h20 : pick l 20 = some (.slice 29 (.tmp 56) (some (.tmp 61)) (some (.tmp 62)) none, some 63))
    (h21 : pick l 21 = some (.call { callee := .builtin .append, args := #[.tmp 52, .tmp 63], argTypes := #[29, 29] }, some 64))
    (h22 : pick l 22 = some (.build 50 #[(0, .tmp 47), (1, .tmp 51), (2, .tmp 64)], some 65))
    (h23 : pick l 23 = some (.buildSlice 40 1 #[(0, .tmp 65)], some 66))
    (hs : A.tmps.size = 79)
    (x0 : A.eval (.tmp 0) = .pointer (some ⟨b, 0, none⟩))
    (x6 : A.eval (.tmp 6) = ov)
    (x7 : A.eval (.tmp 7) = .int .i64 (en : Nat))
    (h : ∀ v9 v21 v22 v23 w1, Below w.heap.size w w1 → Emp0 v9 w1 → OwnI n0 m news v21 w1 → BkV n0 m news p wr v22 w1 → BkS n0 m news p wr v23 w1 → wpList Try.prog l.toArray Q (l.drop 24) ((((((((((((((((((((((((A.put (some 43) (ov)).put (some 44) (.pointer (some ⟨b, 0, none⟩))).put (some 45) (.pointer (some ⟨b, 0, none⟩))).put (some 46) (.pointer (some ⟨b, 3, none⟩))).put (some 47) (.int .i64 (p : Nat))).put (some 48) (.pointer (some ⟨b, 0, none⟩))).put (some 49) (.pointer (some ⟨b, 0, none⟩))).put (some 50) (.pointer (some ⟨b, 5, none⟩))).put (some 51) (.int .i64 (wr : Nat))).put (some 52) (v9)).put (some 53) (.pointer (some ⟨b, 0, none⟩))).put (some 54) (.pointer (some ⟨b, 0, none⟩))).put (some 55) (.pointer (some ⟨b, 1, none⟩))).put (some 56) (.slice (some ⟨g, 0, none⟩) n cap)).put (some 57) (.pointer (some ⟨b, 0, none⟩))).put (some 58) (.pointer (some ⟨b, 0, none⟩))).put (some 59) (.pointer (some ⟨b, 3, none⟩))).put (some 60) (.int .i64 (p : Nat))).put (some 61) (.int .i64 (p32 : Nat))).put (some 62) (.int .i64 (en : Nat))).put (some 63) (.slice (some ⟨g, p32, none⟩) m (cap - p32))).put (some 64) (v21)).put (some 65) (v22)).put (some 66) (v23)) w1) :
    (Code.region id l.toArray true).wp Try.prog Q A w := by
  refine wp_region_head (by kernel_rfl) _ _ _ hB (FeRegion b p wr g n cap p32 en m n0 ov news A w) ⟨Off.refl _ _, (Below.refl _ _).drew, by simp, by simp, by simp, by simp, by simp, by simp, by simp, by simp, by simp, by simp, by simp, by simp, by simp, by simp, by simp, by simp, by simp, by simp, by simp, by simp, by simp, by simp, by simp, by simp⟩ ?_ ?_
  · intro s a w' S i' o il ho hsi hT K hK
    have sz : a.tmps.size = 79 := by rw [S.off.2.1]; exact hs
    have y0 : a.eval (.tmp 0) = .pointer (some ⟨b, 0, none⟩) := by rw [S.off.eval (by decide)]; exact x0
    have y6 : a.eval (.tmp 6) = ov := by rw [S.off.eval (by decide)]; exact x6
    have y7 : a.eval (.tmp 7) = .int .i64 (en : Nat) := by rw [S.off.eval (by decide)]; exact x7
    match i', il, ho, hsi, hT with
    | 0, _, ho, hsi, hT =>
      obtain ⟨e1, e2⟩ := pick_of h0 ho
      have BW := S.before
      refine step_val (v := ov) (by simp only [execOp, e1, y6]; go_simp) (hK _ _ ?_)
      rw [e2]
      exact ⟨S.off.put (by decide) _, S.before, fun _ => (eval_put _ _ _ (by omega)).trans rfl, fun g => by rw [eval_put_ne _ _ _ _ (by decide)]; exact S.t1 (by simpa using g), fun g => by rw [eval_put_ne _ _ _ _ (by decide)]; exact S.t2 (by simpa using g), fun g => by rw [eval_put_ne _ _ _ _ (by decide)]; exact S.t3 (by simpa using g), fun g => by rw [eval_put_ne _ _ _ _ (by decide)]; exact S.t4 (by simpa using g), fun g => by rw [eval_put_ne _ _ _ _ (by decide)]; exact S.t5 (by simpa using g), fun g => by rw [eval_put_ne _ _ _ _ (by decide)]; exact S.t6 (by simpa using g), fun g => by rw [eval_put_ne _ _ _ _ (by decide)]; exact S.t7 (by simpa using g), fun g => by rw [eval_put_ne _ _ _ _ (by decide)]; exact S.t8 (by simpa using g), fun g => (S.t9 (by simpa using g)).imp fun b hb => ⟨by rw [eval_put_ne _ _ _ _ (by decide)]; exact hb.1, hb.2⟩, fun g => by rw [eval_put_ne _ _ _ _ (by decide)]; exact S.t10 (by simpa using g), fun g => by rw [eval_put_ne _ _ _ _ (by decide)]; exact S.t11 (by simpa using g), fun g => by rw [eval_put_ne _ _ _ _ (by decide)]; exact S.t12 (by simpa using g), fun g => by rw [eval_put_ne _ _ _ _ (by decide)]; exact S.t13 (by simpa using g), fun g => by rw [eval_put_ne _ _ _ _ (by decide)]; exact S.t14 (by simpa using g), fun g => by rw [eval_put_ne _ _ _ _ (by decide)]; exact S.t15 (by simpa using g), fun g => by rw [eval_put_ne _ _ _ _ (by decide)]; exact S.t16 (by simpa using g), fun g => by rw [eval_put_ne _ _ _ _ (by decide)]; exact S.t17 (by simpa using g), fun g => by rw [eval_put_ne _ _ _ _ (by decide)]; exact S.t18 (by simpa using g), fun g => by rw [eval_put_ne _ _ _ _ (by decide)]; exact S.t19 (by simpa using g), fun g => by rw [eval_put_ne _ _ _ _ (by decide)]; exact S.t20 (by simpa using g), fun g => (S.t21 (by simpa using g)).imp fun b hb => ⟨by rw [eval_put_ne _ _ _ _ (by decide)]; exact hb.1, hb.2⟩, fun g => (S.t22 (by simpa using g)).imp fun b hb => ⟨by rw [eval_put_ne _ _ _ _ (by decide)]; exact hb.1, hb.2⟩, fun g => (S.t23 (by simpa using g)).imp fun b hb => ⟨by rw [eval_put_ne _ _ _ _ (by decide)]; exact hb.1, hb.2⟩⟩
    | 1, _, ho, hsi, hT =>
      obtain ⟨e1, e2⟩ := pick_of h1 ho
      have BW := S.before
      refine step_val (v := .pointer (some ⟨b, 0, none⟩)) (by simp only [execOp, e1, y0]; go_simp) (hK _ _ ?_)
      rw [e2]
      exact ⟨S.off.put (by decide) _, S.before, fun g => by rw [eval_put_ne _ _ _ _ (by decide)]; exact S.t0 (by simpa using g), fun _ => (eval_put _ _ _ (by omega)).trans rfl, fun g => by rw [eval_put_ne _ _ _ _ (by decide)]; exact S.t2 (by simpa using g), fun g => by rw [eval_put_ne _ _ _ _ (by decide)]; exact S.t3 (by simpa using g), fun g => by rw [eval_put_ne _ _ _ _ (by decide)]; exact S.t4 (by simpa using g), fun g => by rw [eval_put_ne _ _ _ _ (by decide)]; exact S.t5 (by simpa using g), fun g => by rw [eval_put_ne _ _ _ _ (by decide)]; exact S.t6 (by simpa using g), fun g => by rw [eval_put_ne _ _ _ _ (by decide)]; exact S.t7 (by simpa using g), fun g => by rw [eval_put_ne _ _ _ _ (by decide)]; exact S.t8 (by simpa using g), fun g => (S.t9 (by simpa using g)).imp fun b hb => ⟨by rw [eval_put_ne _ _ _ _ (by decide)]; exact hb.1, hb.2⟩, fun g => by rw [eval_put_ne _ _ _ _ (by decide)]; exact S.t10 (by simpa using g), fun g => by rw [eval_put_ne _ _ _ _ (by decide)]; exact S.t11 (by simpa using g), fun g => by rw [eval_put_ne _ _ _ _ (by decide)]; exact S.t12 (by simpa using g), fun g => by rw [eval_put_ne _ _ _ _ (by decide)]; exact S.t13 (by simpa using g), fun g => by rw [eval_put_ne _ _ _ _ (by decide)]; exact S.t14 (by simpa using g), fun g => by rw [eval_put_ne _ _ _ _ (by decide)]; exact S.t15 (by simpa using g), fun g => by rw [eval_put_ne _ _ _ _ (by decide)]; exact S.t16 (by simpa using g), fun g => by rw [eval_put_ne _ _ _ _ (by decide)]; exact S.t17 (by simpa using g), fun g => by rw [eval_put_ne _ _ _ _ (by decide)]; exact S.t18 (by simpa using g), fun g => by rw [eval_put_ne _ _ _ _ (by decide)]; exact S.t19 (by simpa using g), fun g => by rw [eval_put_ne _ _ _ _ (by decide)]; exact S.t20 (by simpa using g), fun g => (S.t21 (by simpa using g)).imp fun b hb => ⟨by rw [eval_put_ne _ _ _ _ (by decide)]; exact hb.1, hb.2⟩, fun g => (S.t22 (by simpa using g)).imp fun b hb => ⟨by rw [eval_put_ne _ _ _ _ (by decide)]; exact hb.1, hb.2⟩, fun g => (S.t23 (by simpa using g)).imp fun b hb => ⟨by rw [eval_put_ne _ _ _ _ (by decide)]; exact hb.1, hb.2⟩⟩
    | 2, _, ho, hsi, hT =>
      obtain ⟨e1, e2⟩ := pick_of h2 ho
      have D1 : s 1 = true := list_pos hT (d := 1) (by decide)
      have BW := S.before
      refine step_val (v := .pointer (some ⟨b, 0, none⟩)) (by simp only [execOp, e1, S.t1 D1]; go_simp) (hK _ _ ?_)
      rw [e2]
      exact ⟨S.off.put (by decide) _, S.before, fun g => by rw [eval_put_ne _ _ _ _ (by decide)]; exact S.t0 (by simpa using g), fun g => by rw [eval_put_ne _ _ _ _ (by decide)]; exact S.t1 (by simpa using g), fun _ => (eval_put _ _ _ (by omega)).trans rfl, fun g => by rw [eval_put_ne _ _ _ _ (by decide)]; exact S.t3 (by simpa using g), fun g => by rw [eval_put_ne _ _ _ _ (by decide)]; exact S.t4 (by simpa using g), fun g => by rw [eval_put_ne _ _ _ _ (by decide)]; exact S.t5 (by simpa using g), fun g => by rw [eval_put_ne _ _ _ _ (by decide)]; exact S.t6 (by simpa using g), fun g => by rw [eval_put_ne _ _ _ _ (by decide)]; exact S.t7 (by simpa using g), fun g => by rw [eval_put_ne _ _ _ _ (by decide)]; exact S.t8 (by simpa using g), fun g => (S.t9 (by simpa using g)).imp fun b hb => ⟨by rw [eval_put_ne _ _ _ _ (by decide)]; exact hb.1, hb.2⟩, fun g => by rw [eval_put_ne _ _ _ _ (by decide)]; exact S.t10 (by simpa using g), fun g => by rw [eval_put_ne _ _ _ _ (by decide)]; exact S.t11 (by simpa using g), fun g => by rw [eval_put_ne _ _ _ _ (by decide)]; exact S.t12 (by simpa using g), fun g => by rw [eval_put_ne _ _ _ _ (by decide)]; exact S.t13 (by simpa using g), fun g => by rw [eval_put_ne _ _ _ _ (by decide)]; exact S.t14 (by simpa using g), fun g => by rw [eval_put_ne _ _ _ _ (by decide)]; exact S.t15 (by simpa using g), fun g => by rw [eval_put_ne _ _ _ _ (by decide)]; exact S.t16 (by simpa using g), fun g => by rw [eval_put_ne _ _ _ _ (by decide)]; exact S.t17 (by simpa using g), fun g => by rw [eval_put_ne _ _ _ _ (by decide)]; exact S.t18 (by simpa using g), fun g => by rw [eval_put_ne _ _ _ _ (by decide)]; exact S.t19 (by simpa using g), fun g => by rw [eval_put_ne _ _ _ _ (by decide)]; exact S.t20 (by simpa using g), fun g => (S.t21 (by simpa using g)).imp fun b hb => ⟨by rw [eval_put_ne _ _ _ _ (by decide)]; exact hb.1, hb.2⟩, fun g => (S.t22 (by simpa using g)).imp fun b hb => ⟨by rw [eval_put_ne _ _ _ _ (by decide)]; exact hb.1, hb.2⟩, fun g => (S.t23 (by simpa using g)).imp fun b hb => ⟨by rw [eval_put_ne _ _ _ _ (by decide)]; exact hb.1, hb.2⟩⟩
    | 3, _, ho, hsi, hT =>
      obtain ⟨e1, e2⟩ := pick_of h3 ho
      have D2 : s 2 = true := list_pos hT (d := 2) (by decide)
      have BW := S.before
      refine step_val (v := .pointer (some ⟨b, 3, none⟩)) (by simp only [execOp, e1, S.t2 D2]; go_simp) (hK _ _ ?_)
      rw [e2]
      exact ⟨S.off.put (by decide) _, S.before, fun g => by rw [eval_put_ne _ _ _ _ (by decide)]; exact S.t0 (by simpa using g), fun g => by rw [eval_put_ne _ _ _ _ (by decide)]; exact S.t1 (by simpa using g), fun g => by rw [eval_put_ne _ _ _ _ (by decide)]; exact S.t2 (by simpa using g), fun _ => (eval_put _ _ _ (by omega)).trans rfl, fun g => by rw [eval_put_ne _ _ _ _ (by decide)]; exact S.t4 (by simpa using g), fun g => by rw [eval_put_ne _ _ _ _ (by decide)]; exact S.t5 (by simpa using g), fun g => by rw [eval_put_ne _ _ _ _ (by decide)]; exact S.t6 (by simpa using g), fun g => by rw [eval_put_ne _ _ _ _ (by decide)]; exact S.t7 (by simpa using g), fun g => by rw [eval_put_ne _ _ _ _ (by decide)]; exact S.t8 (by simpa using g), fun g => (S.t9 (by simpa using g)).imp fun b hb => ⟨by rw [eval_put_ne _ _ _ _ (by decide)]; exact hb.1, hb.2⟩, fun g => by rw [eval_put_ne _ _ _ _ (by decide)]; exact S.t10 (by simpa using g), fun g => by rw [eval_put_ne _ _ _ _ (by decide)]; exact S.t11 (by simpa using g), fun g => by rw [eval_put_ne _ _ _ _ (by decide)]; exact S.t12 (by simpa using g), fun g => by rw [eval_put_ne _ _ _ _ (by decide)]; exact S.t13 (by simpa using g), fun g => by rw [eval_put_ne _ _ _ _ (by decide)]; exact S.t14 (by simpa using g), fun g => by rw [eval_put_ne _ _ _ _ (by decide)]; exact S.t15 (by simpa using g), fun g => by rw [eval_put_ne _ _ _ _ (by decide)]; exact S.t16 (by simpa using g), fun g => by rw [eval_put_ne _ _ _ _ (by decide)]; exact S.t17 (by simpa using g), fun g => by rw [eval_put_ne _ _ _ _ (by decide)]; exact S.t18 (by simpa using g), fun g => by rw [eval_put_ne _ _ _ _ (by decide)]; exact S.t19 (by simpa using g), fun g => by rw [eval_put_ne _ _ _ _ (by decide)]; exact S.t20 (by simpa using g), fun g => (S.t21 (by simpa using g)).imp fun b hb => ⟨by rw [eval_put_ne _ _ _ _ (by decide)]; exact hb.1, hb.2⟩, fun g => (S.t22 (by simpa using g)).imp fun b hb => ⟨by rw [eval_put_ne _ _ _ _ (by decide)]; exact hb.1, hb.2⟩, fun g => (S.t23 (by simpa using g)).imp fun b hb => ⟨by rw [eval_put_ne _ _ _ _ (by decide)]; exact hb.1, hb.2⟩⟩
    | 4, _, ho, hsi, hT =>
      obtain ⟨e1, e2⟩ := pick_of h4 ho
      have D3 : s 3 = true := list_pos hT (d := 3) (by decide)
      have BW := S.before
      have cl := (BW.cell (p := ⟨b, 3, none⟩) lb).trans c3
      refine step_val (v := .int .i64 (p : Nat)) (by simp only [execOp, e1, S.t3 D3]; go_simp) (hK _ _ ?_)
      rw [e2]
      exact ⟨S.off.put (by decide) _, S.before, fun g => by rw [eval_put_ne _ _ _ _ (by decide)]; exact S.t0 (by simpa using g), fun g => by rw [eval_put_ne _ _ _ _ (by decide)]; exact S.t1 (by simpa using g), fun g => by rw [eval_put_ne _ _ _ _ (by decide)]; exact S.t2 (by simpa using g), fun g => by rw [eval_put_ne _ _ _ _ (by decide)]; exact S.t3 (by simpa using g), fun _ => (eval_put _ _ _ (by omega)).trans rfl, fun g => by rw [eval_put_ne _ _ _ _ (by decide)]; exact S.t5 (by simpa using g), fun g => by rw [eval_put_ne _ _ _ _ (by decide)]; exact S.t6 (by simpa using g), fun g => by rw [eval_put_ne _ _ _ _ (by decide)]; exact S.t7 (by simpa using g), fun g => by rw [eval_put_ne _ _ _ _ (by decide)]; exact S.t8 (by simpa using g), fun g => (S.t9 (by simpa using g)).imp fun b hb => ⟨by rw [eval_put_ne _ _ _ _ (by decide)]; exact hb.1, hb.2⟩, fun g => by rw [eval_put_ne _ _ _ _ (by decide)]; exact S.t10 (by simpa using g), fun g => by rw [eval_put_ne _ _ _ _ (by decide)]; exact S.t11 (by simpa using g), fun g => by rw [eval_put_ne _ _ _ _ (by decide)]; exact S.t12 (by simpa using g), fun g => by rw [eval_put_ne _ _ _ _ (by decide)]; exact S.t13 (by simpa using g), fun g => by rw [eval_put_ne _ _ _ _ (by decide)]; exact S.t14 (by simpa using g), fun g => by rw [eval_put_ne _ _ _ _ (by decide)]; exact S.t15 (by simpa using g), fun g => by rw [eval_put_ne _ _ _ _ (by decide)]; exact S.t16 (by simpa using g), fun g => by rw [eval_put_ne _ _ _ _ (by decide)]; exact S.t17 (by simpa using g), fun g => by rw [eval_put_ne _ _ _ _ (by decide)]; exact S.t18 (by simpa using g), fun g => by rw [eval_put_ne _ _ _ _ (by decide)]; exact S.t19 (by simpa using g), fun g => by rw [eval_put_ne _ _ _ _ (by decide)]; exact S.t20 (by simpa using g), fun g => (S.t21 (by simpa using g)).imp fun b hb => ⟨by rw [eval_put_ne _ _ _ _ (by decide)]; exact hb.1, hb.2⟩, fun g => (S.t22 (by simpa using g)).imp fun b hb => ⟨by rw [eval_put_ne _ _ _ _ (by decide)]; exact hb.1, hb.2⟩, fun g => (S.t23 (by simpa using g)).imp fun b hb => ⟨by rw [eval_put_ne _ _ _ _ (by decide)]; exact hb.1, hb.2⟩⟩
    | 5, _, ho, hsi, hT =>
      obtain ⟨e1, e2⟩ := pick_of h5 ho
      have BW := S.before
      refine step_val (v := .pointer (some ⟨b, 0, none⟩)) (by simp only [execOp, e1, y0]; go_simp) (hK _ _ ?_)
      rw [e2]
      exact ⟨S.off.put (by decide) _, S.before, fun g => by rw [eval_put_ne _ _ _ _ (by decide)]; exact S.t0 (by simpa using g), fun g => by rw [eval_put_ne _ _ _ _ (by decide)]; exact S.t1 (by simpa using g), fun g => by rw [eval_put_ne _ _ _ _ (by decide)]; exact S.t2 (by simpa using g), fun g => by rw [eval_put_ne _ _ _ _ (by decide)]; exact S.t3 (by simpa using g), fun g => by rw [eval_put_ne _ _ _ _ (by decide)]; exact S.t4 (by simpa using g), fun _ => (eval_put _ _ _ (by omega)).trans rfl, fun g => by rw [eval_put_ne _ _ _ _ (by decide)]; exact S.t6 (by simpa using g), fun g => by rw [eval_put_ne _ _ _ _ (by decide)]; exact S.t7 (by simpa using g), fun g => by rw [eval_put_ne _ _ _ _ (by decide)]; exact S.t8 (by simpa using g), fun g => (S.t9 (by simpa using g)).imp fun b hb => ⟨by rw [eval_put_ne _ _ _ _ (by decide)]; exact hb.1, hb.2⟩, fun g => by rw [eval_put_ne _ _ _ _ (by decide)]; exact S.t10 (by simpa using g), fun g => by rw [eval_put_ne _ _ _ _ (by decide)]; exact S.t11 (by simpa using g), fun g => by rw [eval_put_ne _ _ _ _ (by decide)]; exact S.t12 (by simpa using g), fun g => by rw [eval_put_ne _ _ _ _ (by decide)]; exact S.t13 (by simpa using g), fun g => by rw [eval_put_ne _ _ _ _ (by decide)]; exact S.t14 (by simpa using g), fun g => by rw [eval_put_ne _ _ _ _ (by decide)]; exact S.t15 (by simpa using g), fun g => by rw [eval_put_ne _ _ _ _ (by decide)]; exact S.t16 (by simpa using g), fun g => by rw [eval_put_ne _ _ _ _ (by decide)]; exact S.t17 (by simpa using g), fun g => by rw [eval_put_ne _ _ _ _ (by decide)]; exact S.t18 (by simpa using g), fun g => by rw [eval_put_ne _ _ _ _ (by decide)]; exact S.t19 (by simpa using g), fun g => by rw [eval_put_ne _ _ _ _ (by decide)]; exact S.t20 (by simpa using g), fun g => (S.t21 (by simpa using g)).imp fun b hb => ⟨by rw [eval_put_ne _ _ _ _ (by decide)]; exact hb.1, hb.2⟩, fun g => (S.t22 (by simpa using g)).imp fun b hb => ⟨by rw [eval_put_ne _ _ _ _ (by decide)]; exact hb.1, hb.2⟩, fun g => (S.t23 (by simpa using g)).imp fun b hb => ⟨by rw [eval_put_ne _ _ _ _ (by decide)]; exact hb.1, hb.2⟩⟩
    | 6, _, ho, hsi, hT =>
      obtain ⟨e1, e2⟩ := pick_of h6 ho
      have D5 : s 5 = true := list_pos hT (d := 5) (by decide)
      have BW := S.before
      refine step_val (v := .pointer (some ⟨b, 0, none⟩)) (by simp only [execOp, e1, S.t5 D5]; go_simp) (hK _ _ ?_)
      rw [e2]
      exact ⟨S.off.put (by decide) _, S.before, fun g => by rw [eval_put_ne _ _ _ _ (by decide)]; exact S.t0 (by simpa using g), fun g => by rw [eval_put_ne _ _ _ _ (by decide)]; exact S.t1 (by simpa using g), fun g => by rw [eval_put_ne _ _ _ _ (by decide)]; exact S.t2 (by simpa using g), fun g => by rw [eval_put_ne _ _ _ _ (by decide)]; exact S.t3 (by simpa using g), fun g => by rw [eval_put_ne _ _ _ _ (by decide)]; exact S.t4 (by simpa using g), fun g => by rw [eval_put_ne _ _ _ _ (by decide)]; exact S.t5 (by simpa using g), fun _ => (eval_put _ _ _ (by omega)).trans rfl, fun g => by rw [eval_put_ne _ _ _ _ (by decide)]; exact S.t7 (by simpa using g), fun g => by rw [eval_put_ne _ _ _ _ (by decide)]; exact S.t8 (by simpa using g), fun g => (S.t9 (by simpa using g)).imp fun b hb => ⟨by rw [eval_put_ne _ _ _ _ (by decide)]; exact hb.1, hb.2⟩, fun g => by rw [eval_put_ne _ _ _ _ (by decide)]; exact S.t10 (by simpa using g), fun g => by rw [eval_put_ne _ _ _ _ (by decide)]; exact S.t11 (by simpa using g), fun g => by rw [eval_put_ne _ _ _ _ (by decide)]; exact S.t12 (by simpa using g), fun g => by rw [eval_put_ne _ _ _ _ (by decide)]; exact S.t13 (by simpa using g), fun g => by rw [eval_put_ne _ _ _ _ (by decide)]; exact S.t14 (by simpa using g), fun g => by rw [eval_put_ne _ _ _ _ (by decide)]; exact S.t15 (by simpa using g), fun g => by rw [eval_put_ne _ _ _ _ (by decide)]; exact S.t16 (by simpa using g), fun g => by rw [eval_put_ne _ _ _ _ (by decide)]; exact S.t17 (by simpa using g), fun g => by rw [eval_put_ne _ _ _ _ (by decide)]; exact S.t18 (by simpa using g), fun g => by rw [eval_put_ne _ _ _ _ (by decide)]; exact S.t19 (by simpa using g), fun g => by rw [eval_put_ne _ _ _ _ (by decide)]; exact S.t20 (by simpa using g), fun g => (S.t21 (by simpa using g)).imp fun b hb => ⟨by rw [eval_put_ne _ _ _ _ (by decide)]; exact hb.1, hb.2⟩, fun g => (S.t22 (by simpa using g)).imp fun b hb => ⟨by rw [eval_put_ne _ _ _ _ (by decide)]; exact hb.1, hb.2⟩, fun g => (S.t23 (by simpa using g)).imp fun b hb => ⟨by rw [eval_put_ne _ _ _ _ (by decide)]; exact hb.1, hb.2⟩⟩
    | 7, _, ho, hsi, hT =>
      obtain ⟨e1, e2⟩ := pick_of h7 ho
      have D6 : s 6 = true := list_pos hT (d := 6) (by decide)
      have BW := S.before
      refine step_val (v := .pointer (some ⟨b, 5, none⟩)) (by simp only [execOp, e1, S.t6 D6]; go_simp) (hK _ _ ?_)
      rw [e2]
      exact ⟨S.off.put (by decide) _, S.before, fun g => by rw [eval_put_ne _ _ _ _ (by decide)]; exact S.t0 (by simpa using g), fun g => by rw [eval_put_ne _ _ _ _ (by decide)]; exact S.t1 (by simpa using g), fun g => by rw [eval_put_ne _ _ _ _ (by decide)]; exact S.t2 (by simpa using g), fun g => by rw [eval_put_ne _ _ _ _ (by decide)]; exact S.t3 (by simpa using g), fun g => by rw [eval_put_ne _ _ _ _ (by decide)]; exact S.t4 (by simpa using g), fun g => by rw [eval_put_ne _ _ _ _ (by decide)]; exact S.t5 (by simpa using g), fun g => by rw [eval_put_ne _ _ _ _ (by decide)]; exact S.t6 (by simpa using g), fun _ => (eval_put _ _ _ (by omega)).trans rfl, fun g => by rw [eval_put_ne _ _ _ _ (by decide)]; exact S.t8 (by simpa using g), fun g => (S.t9 (by simpa using g)).imp fun b hb => ⟨by rw [eval_put_ne _ _ _ _ (by decide)]; exact hb.1, hb.2⟩, fun g => by rw [eval_put_ne _ _ _ _ (by decide)]; exact S.t10 (by simpa using g), fun g => by rw [eval_put_ne _ _ _ _ (by decide)]; exact S.t11 (by simpa using g), fun g => by rw [eval_put_ne _ _ _ _ (by decide)]; exact S.t12 (by simpa using g), fun g => by rw [eval_put_ne _ _ _ _ (by decide)]; exact S.t13 (by simpa using g), fun g => by rw [eval_put_ne _ _ _ _ (by decide)]; exact S.t14 (by simpa using g), fun g => by rw [eval_put_ne _ _ _ _ (by decide)]; exact S.t15 (by simpa using g), fun g => by rw [eval_put_ne _ _ _ _ (by decide)]; exact S.t16 (by simpa using g), fun g => by rw [eval_put_ne _ _ _ _ (by decide)]; exact S.t17 (by simpa using g), fun g => by rw [eval_put_ne _ _ _ _ (by decide)]; exact S.t18 (by simpa using g), fun g => by rw [eval_put_ne _ _ _ _ (by decide)]; exact S.t19 (by simpa using g), fun g => by rw [eval_put_ne _ _ _ _ (by decide)]; exact S.t20 (by simpa using g), fun g => (S.t21 (by simpa using g)).imp fun b hb => ⟨by rw [eval_put_ne _ _ _ _ (by decide)]; exact hb.1, hb.2⟩, fun g => (S.t22 (by simpa using g)).imp fun b hb => ⟨by rw [eval_put_ne _ _ _ _ (by decide)]; exact hb.1, hb.2⟩, fun g => (S.t23 (by simpa using g)).imp fun b hb => ⟨by rw [eval_put_ne _ _ _ _ (by decide)]; exact hb.1, hb.2⟩⟩
    | 8, _, ho, hsi, hT =>
      obtain ⟨e1, e2⟩ := pick_of h8 ho
      have D7 : s 7 = true := list_pos hT (d := 7) (by decide)
      have BW := S.before
      have cl := (BW.cell (p := ⟨b, 5, none⟩) lb).trans c5
      refine step_val (v := .int .i64 (wr : Nat)) (by simp only [execOp, e1, S.t7 D7]; go_simp) (hK _ _ ?_)
      rw [e2]
      exact ⟨S.off.put (by decide) _, S.before, fun g => by rw [eval_put_ne _ _ _ _ (by decide)]; exact S.t0 (by simpa using g), fun g => by rw [eval_put_ne _ _ _ _ (by decide)]; exact S.t1 (by simpa using g), fun g => by rw [eval_put_ne _ _ _ _ (by decide)]; exact S.t2 (by simpa using g), fun g => by rw [eval_put_ne _ _ _ _ (by decide)]; exact S.t3 (by simpa using g), fun g => by rw [eval_put_ne _ _ _ _ (by decide)]; exact S.t4 (by simpa using g), fun g => by rw [eval_put_ne _ _ _ _ (by decide)]; exact S.t5 (by simpa using g), fun g => by rw [eval_put_ne _ _ _ _ (by decide)]; exact S.t6 (by simpa using g), fun g => by rw [eval_put_ne _ _ _ _ (by decide)]; exact S.t7 (by simpa using g), fun _ => (eval_put _ _ _ (by omega)).trans rfl, fun g => (S.t9 (by simpa using g)).imp fun b hb => ⟨by rw [eval_put_ne _ _ _ _ (by decide)]; exact hb.1, hb.2⟩, fun g => by rw [eval_put_ne _ _ _ _ (by decide)]; exact S.t10 (by simpa using g), fun g => by rw [eval_put_ne _ _ _ _ (by decide)]; exact S.t11 (by simpa using g), fun g => by rw [eval_put_ne _ _ _ _ (by decide)]; exact S.t12 (by simpa using g), fun g => by rw [eval_put_ne _ _ _ _ (by decide)]; exact S.t13 (by simpa using g), fun g => by rw [eval_put_ne _ _ _ _ (by decide)]; exact S.t14 (by simpa using g), fun g => by rw [eval_put_ne _ _ _ _ (by decide)]; exact S.t15 (by simpa using g), fun g => by rw [eval_put_ne _ _ _ _ (by decide)]; exact S.t16 (by simpa using g), fun g => by rw [eval_put_ne _ _ _ _ (by decide)]; exact S.t17 (by simpa using g), fun g => by rw [eval_put_ne _ _ _ _ (by decide)]; exact S.t18 (by simpa using g), fun g => by rw [eval_put_ne _ _ _ _ (by decide)]; exact S.t19 (by simpa using g), fun g => by rw [eval_put_ne _ _ _ _ (by decide)]; exact S.t20 (by simpa using g), fun g => (S.t21 (by simpa using g)).imp fun b hb => ⟨by rw [eval_put_ne _ _ _ _ (by decide)]; exact hb.1, hb.2⟩, fun g => (S.t22 (by simpa using g)).imp fun b hb => ⟨by rw [eval_put_ne _ _ _ _ (by decide)]; exact hb.1, hb.2⟩, fun g => (S.t23 (by simpa using g)).imp fun b hb => ⟨by rw [eval_put_ne _ _ _ _ (by decide)]; exact hb.1, hb.2⟩⟩
    | 9, _, ho, hsi, hT =>
      obtain ⟨e1, e2⟩ := pick_of h9 ho
      have BW := S.before
      refine step_to1 (w2 := w'.alloc (.cells #[] 3)) (v := .slice (some ⟨w'.heap.size, 0, none⟩) 0 0) (by simp only [execOp, e1]; go_simp) (hK _ _ ?_)
      have BB := ba (Below.refl w'.heap.size w') (.cells #[] 3)
      have FF := emp0_new w'.heap.size (w'.alloc (.cells #[] 3))
      rw [e2]
      exact ⟨S.off.put (by decide) _, bt BW BB, fun g => by rw [eval_put_ne _ _ _ _ (by decide)]; exact S.t0 (by simpa using g), fun g => by rw [eval_put_ne _ _ _ _ (by decide)]; exact S.t1 (by simpa using g), fun g => by rw [eval_put_ne _ _ _ _ (by decide)]; exact S.t2 (by simpa using g), fun g => by rw [eval_put_ne _ _ _ _ (by decide)]; exact S.t3 (by simpa using g), fun g => by rw [eval_put_ne _ _ _ _ (by decide)]; exact S.t4 (by simpa using g), fun g => by rw [eval_put_ne _ _ _ _ (by decide)]; exact S.t5 (by simpa using g), fun g => by rw [eval_put_ne _ _ _ _ (by decide)]; exact S.t6 (by simpa using g), fun g => by rw [eval_put_ne _ _ _ _ (by decide)]; exact S.t7 (by simpa using g), fun g => by rw [eval_put_ne _ _ _ _ (by decide)]; exact S.t8 (by simpa using g), fun _ => ⟨_, (eval_put _ _ _ (by omega)).trans rfl, FF⟩, fun g => by rw [eval_put_ne _ _ _ _ (by decide)]; exact S.t10 (by simpa using g), fun g => by rw [eval_put_ne _ _ _ _ (by decide)]; exact S.t11 (by simpa using g), fun g => by rw [eval_put_ne _ _ _ _ (by decide)]; exact S.t12 (by simpa using g), fun g => by rw [eval_put_ne _ _ _ _ (by decide)]; exact S.t13 (by simpa using g), fun g => by rw [eval_put_ne _ _ _ _ (by decide)]; exact S.t14 (by simpa using g), fun g => by rw [eval_put_ne _ _ _ _ (by decide)]; exact S.t15 (by simpa using g), fun g => by rw [eval_put_ne _ _ _ _ (by decide)]; exact S.t16 (by simpa using g), fun g => by rw [eval_put_ne _ _ _ _ (by decide)]; exact S.t17 (by simpa using g), fun g => by rw [eval_put_ne _ _ _ _ (by decide)]; exact S.t18 (by simpa using g), fun g => by rw [eval_put_ne _ _ _ _ (by decide)]; exact S.t19 (by simpa using g), fun g => by rw [eval_put_ne _ _ _ _ (by decide)]; exact S.t20 (by simpa using g), fun g => (S.t21 (by simpa using g)).imp fun b hb => ⟨by rw [eval_put_ne _ _ _ _ (by decide)]; exact hb.1, (OwnI.mono hb.2 BB)⟩, fun g => (S.t22 (by simpa using g)).imp fun b hb => ⟨by rw [eval_put_ne _ _ _ _ (by decide)]; exact hb.1, (BkV.mono hb.2 BB)⟩, fun g => (S.t23 (by simpa using g)).imp fun b hb => ⟨by rw [eval_put_ne _ _ _ _ (by decide)]; exact hb.1, (BkS.mono hb.2 BB)⟩⟩
    | 10, _, ho, hsi, hT =>
      obtain ⟨e1, e2⟩ := pick_of h10 ho
      have BW := S.before
      refine step_val (v := .pointer (some ⟨b, 0, none⟩)) (by simp only [execOp, e1, y0]; go_simp) (hK _ _ ?_)
      rw [e2]
      exact ⟨S.off.put (by decide) _, S.before, fun g => by rw [eval_put_ne _ _ _ _ (by decide)]; exact S.t0 (by simpa using g), fun g => by rw [eval_put_ne _ _ _ _ (by decide)]; exact S.t1 (by simpa using g), fun g => by rw [eval_put_ne _ _ _ _ (by decide)]; exact S.t2 (by simpa using g), fun g => by rw [eval_put_ne _ _ _ _ (by decide)]; exact S.t3 (by simpa using g), fun g => by rw [eval_put_ne _ _ _ _ (by decide)]; exact S.t4 (by simpa using g), fun g => by rw [eval_put_ne _ _ _ _ (by decide)]; exact S.t5 (by simpa using g), fun g => by rw [eval_put_ne _ _ _ _ (by decide)]; exact S.t6 (by simpa using g), fun g => by rw [eval_put_ne _ _ _ _ (by decide)]; exact S.t7 (by simpa using g), fun g => by rw [eval_put_ne _ _ _ _ (by decide)]; exact S.t8 (by simpa using g), fun g => (S.t9 (by simpa using g)).imp fun b hb => ⟨by rw [eval_put_ne _ _ _ _ (by decide)]; exact hb.1, hb.2⟩, fun _ => (eval_put _ _ _ (by omega)).trans rfl, fun g => by rw [eval_put_ne _ _ _ _ (by decide)]; exact S.t11 (by simpa using g), fun g => by rw [eval_put_ne _ _ _ _ (by decide)]; exact S.t12 (by simpa using g), fun g => by rw [eval_put_ne _ _ _ _ (by decide)]; exact S.t13 (by simpa using g), fun g => by rw [eval_put_ne _ _ _ _ (by decide)]; exact S.t14 (by simpa using g), fun g => by rw [eval_put_ne _ _ _ _ (by decide)]; exact S.t15 (by simpa using g), fun g => by rw [eval_put_ne _ _ _ _ (by decide)]; exact S.t16 (by simpa using g), fun g => by rw [eval_put_ne _ _ _ _ (by decide)]; exact S.t17 (by simpa using g), fun g => by rw [eval_put_ne _ _ _ _ (by decide)]; exact S.t18 (by simpa using g), fun g => by rw [eval_put_ne _ _ _ _ (by decide)]; exact S.t19 (by simpa using g), fun g => by rw [eval_put_ne _ _ _ _ (by decide)]; exact S.t20 (by simpa using g), fun g => (S.t21 (by simpa using g)).imp fun b hb => ⟨by rw [eval_put_ne _ _ _ _ (by decide)]; exact hb.1, hb.2⟩, fun g => (S.t22 (by simpa using g)).imp fun b hb => ⟨by rw [eval_put_ne _ _ _ _ (by decide)]; exact hb.1, hb.2⟩, fun g => (S.t23 (by simpa using g)).imp fun b hb => ⟨by rw [eval_put_ne _ _ _ _ (by decide)]; exact hb.1, hb.2⟩⟩
    | 11, _, ho, hsi, hT =>
      obtain ⟨e1, e2⟩ := pick_of h11 ho
      have D10 : s 10 = true := list_pos hT (d := 10) (by decide)
      have BW := S.before
      refine step_val (v := .pointer (some ⟨b, 0, none⟩)) (by simp only [execOp, e1, S.t10 D10]; go_simp) (hK _ _ ?_)
      rw [e2]
      exact ⟨S.off.put (by decide) _, S.before, fun g => by rw [eval_put_ne _ _ _ _ (by decide)]; exact S.t0 (by simpa using g), fun g => by rw [eval_put_ne _ _ _ _ (by decide)]; exact S.t1 (by simpa using g), fun g => by rw [eval_put_ne _ _ _ _ (by decide)]; exact S.t2 (by simpa using g), fun g => by rw [eval_put_ne _ _ _ _ (by decide)]; exact S.t3 (by simpa using g), fun g => by rw [eval_put_ne _ _ _ _ (by decide)]; exact S.t4 (by simpa using g), fun g => by rw [eval_put_ne _ _ _ _ (by decide)]; exact S.t5 (by simpa using g), fun g => by rw [eval_put_ne _ _ _ _ (by decide)]; exact S.t6 (by simpa using g), fun g => by rw [eval_put_ne _ _ _ _ (by decide)]; exact S.t7 (by simpa using g), fun g => by rw [eval_put_ne _ _ _ _ (by decide)]; exact S.t8 (by simpa using g), fun g => (S.t9 (by simpa using g)).imp fun b hb => ⟨by rw [eval_put_ne _ _ _ _ (by decide)]; exact hb.1, hb.2⟩, fun g => by rw [eval_put_ne _ _ _ _ (by decide)]; exact S.t10 (by simpa using g), fun _ => (eval_put _ _ _ (by omega)).trans rfl, fun g => by rw [eval_put_ne _ _ _ _ (by decide)]; exact S.t12 (by simpa using g), fun g => by rw [eval_put_ne _ _ _ _ (by decide)]; exact S.t13 (by simpa using g), fun g => by rw [eval_put_ne _ _ _ _ (by decide)]; exact S.t14 (by simpa using g), fun g => by rw [eval_put_ne _ _ _ _ (by decide)]; exact S.t15 (by simpa using g), fun g => by rw [eval_put_ne _ _ _ _ (by decide)]; exact S.t16 (by simpa using g), fun g => by rw [eval_put_ne _ _ _ _ (by decide)]; exact S.t17 (by simpa using g), fun g => by rw [eval_put_ne _ _ _ _ (by decide)]; exact S.t18 (by simpa using g), fun g => by rw [eval_put_ne _ _ _ _ (by decide)]; exact S.t19 (by simpa using g), fun g => by rw [eval_put_ne _ _ _ _ (by decide)]; exact S.t20 (by simpa using g), fun g => (S.t21 (by simpa using g)).imp fun b hb => ⟨by rw [eval_put_ne _ _ _ _ (by decide)]; exact hb.1, hb.2⟩, fun g => (S.t22 (by simpa using g)).imp fun b hb => ⟨by rw [eval_put_ne _ _ _ _ (by decide)]; exact hb.1, hb.2⟩, fun g => (S.t23 (by simpa using g)).imp fun b hb => ⟨by rw [eval_put_ne _ _ _ _ (by decide)]; exact hb.1, hb.2⟩⟩
    | 12, _, ho, hsi, hT =>
      obtain ⟨e1, e2⟩ := pick_of h12 ho
      have D11 : s 11 = true := list_pos hT (d := 11) (by decide)
      have BW := S.before
      refine step_val (v := .pointer (some ⟨b, 1, none⟩)) (by simp only [execOp, e1, S.t11 D11]; go_simp) (hK _ _ ?_)
      rw [e2]
      exact ⟨S.off.put (by decide) _, S.before, fun g => by rw [eval_put_ne _ _ _ _ (by decide)]; exact S.t0 (by simpa using g), fun g => by rw [eval_put_ne _ _ _ _ (by decide)]; exact S.t1 (by simpa using g), fun g => by rw [eval_put_ne _ _ _ _ (by decide)]; exact S.t2 (by simpa using g), fun g => by rw [eval_put_ne _ _ _ _ (by decide)]; exact S.t3 (by simpa using g), fun g => by rw [eval_put_ne _ _ _ _ (by decide)]; exact S.t4 (by simpa using g), fun g => by rw [eval_put_ne _ _ _ _ (by decide)]; exact S.t5 (by simpa using g), fun g => by rw [eval_put_ne _ _ _ _ (by decide)]; exact S.t6 (by simpa using g), fun g => by rw [eval_put_ne _ _ _ _ (by decide)]; exact S.t7 (by simpa using g), fun g => by rw [eval_put_ne _ _ _ _ (by decide)]; exact S.t8 (by simpa using g), fun g => (S.t9 (by simpa using g)).imp fun b hb => ⟨by rw [eval_put_ne _ _ _ _ (by decide)]; exact hb.1, hb.2⟩, fun g => by rw [eval_put_ne _ _ _ _ (by decide)]; exact S.t10 (by simpa using g), fun g => by rw [eval_put_ne _ _ _ _ (by decide)]; exact S.t11 (by simpa using g), fun _ => (eval_put _ _ _ (by omega)).trans rfl, fun g => by rw [eval_put_ne _ _ _ _ (by decide)]; exact S.t13 (by simpa using g), fun g => by rw [eval_put_ne _ _ _ _ (by decide)]; exact S.t14 (by simpa using g), fun g => by rw [eval_put_ne _ _ _ _ (by decide)]; exact S.t15 (by simpa using g), fun g => by rw [eval_put_ne _ _ _ _ (by decide)]; exact S.t16 (by simpa using g), fun g => by rw [eval_put_ne _ _ _ _ (by decide)]; exact S.t17 (by simpa using g), fun g => by rw [eval_put_ne _ _ _ _ (by decide)]; exact S.t18 (by simpa using g), fun g => by rw [eval_put_ne _ _ _ _ (by decide)]; exact S.t19 (by simpa using g), fun g => by rw [eval_put_ne _ _ _ _ (by decide)]; exact S.t20 (by simpa using g), fun g => (S.t21 (by simpa using g)).imp fun b hb => ⟨by rw [eval_put_ne _ _ _ _ (by decide)]; exact hb.1, hb.2⟩, fun g => (S.t22 (by simpa using g)).imp fun b hb => ⟨by rw [eval_put_ne _ _ _ _ (by decide)]; exact hb.1, hb.2⟩, fun g => (S.t23 (by simpa using g)).imp fun b hb => ⟨by rw [eval_put_ne _ _ _ _ (by decide)]; exact hb.1, hb.2⟩⟩
    | 13, _, ho, hsi, hT =>
      obtain ⟨e1, e2⟩ := pick_of h13 ho
      have D12 : s 12 = true := list_pos hT (d := 12) (by decide)
      have BW := S.before
      have cl := (BW.cell (p := ⟨b, 1, none⟩) lb).trans c1
      refine step_val (v := .slice (some ⟨g, 0, none⟩) n cap) (by simp only [execOp, e1, S.t12 D12]; go_simp) (hK _ _ ?_)
      rw [e2]
      exact ⟨S.off.put (by decide) _, S.before, fun g => by rw [eval_put_ne _ _ _ _ (by decide)]; exact S.t0 (by simpa using g), fun g => by rw [eval_put_ne _ _ _ _ (by decide)]; exact S.t1 (by simpa using g), fun g => by rw [eval_put_ne _ _ _ _ (by decide)]; exact S.t2 (by simpa using g), fun g => by rw [eval_put_ne _ _ _ _ (by decide)]; exact S.t3 (by simpa using g), fun g => by rw [eval_put_ne _ _ _ _ (by decide)]; exact S.t4 (by simpa using g), fun g => by rw [eval_put_ne _ _ _ _ (by decide)]; exact S.t5 (by simpa using g), fun g => by rw [eval_put_ne _ _ _ _ (by decide)]; exact S.t6 (by simpa using g), fun g => by rw [eval_put_ne _ _ _ _ (by decide)]; exact S.t7 (by simpa using g), fun g => by rw [eval_put_ne _ _ _ _ (by decide)]; exact S.t8 (by simpa using g), fun g => (S.t9 (by simpa using g)).imp fun b hb => ⟨by rw [eval_put_ne _ _ _ _ (by decide)]; exact hb.1, hb.2⟩, fun g => by rw [eval_put_ne _ _ _ _ (by decide)]; exact S.t10 (by simpa using g), fun g => by rw [eval_put_ne _ _ _ _ (by decide)]; exact S.t11 (by simpa using g), fun g => by rw [eval_put_ne _ _ _ _ (by decide)]; exact S.t12 (by simpa using g), fun _ => (eval_put _ _ _ (by omega)).trans rfl, fun g => by rw [eval_put_ne _ _ _ _ (by decide)]; exact S.t14 (by simpa using g), fun g => by rw [eval_put_ne _ _ _ _ (by decide)]; exact S.t15 (by simpa using g), fun g => by rw [eval_put_ne _ _ _ _ (by decide)]; exact S.t16 (by simpa using g), fun g => by rw [eval_put_ne _ _ _ _ (by decide)]; exact S.t17 (by simpa using g), fun g => by rw [eval_put_ne _ _ _ _ (by decide)]; exact S.t18 (by simpa using g), fun g => by rw [eval_put_ne _ _ _ _ (by decide)]; exact S.t19 (by simpa using g), fun g => by rw [eval_put_ne _ _ _ _ (by decide)]; exact S.t20 (by simpa using g), fun g => (S.t21 (by simpa using g)).imp fun b hb => ⟨by rw [eval_put_ne _ _ _ _ (by decide)]; exact hb.1, hb.2⟩, fun g => (S.t22 (by simpa using g)).imp fun b hb => ⟨by rw [eval_put_ne _ _ _ _ (by decide)]; exact hb.1, hb.2⟩, fun g => (S.t23 (by simpa using g)).imp fun b hb => ⟨by rw [eval_put_ne _ _ _ _ (by decide)]; exact hb.1, hb.2⟩⟩
    | 14, _, ho, hsi, hT =>
      obtain ⟨e1, e2⟩ := pick_of h14 ho
      have BW := S.before
      refine step_val (v := .pointer (some ⟨b, 0, none⟩)) (by simp only [execOp, e1, y0]; go_simp) (hK _ _ ?_)
      rw [e2]
      exact ⟨S.off.put (by decide) _, S.before, fun g => by rw [eval_put_ne _ _ _ _ (by decide)]; exact S.t0 (by simpa using g), fun g => by rw [eval_put_ne _ _ _ _ (by decide)]; exact S.t1 (by simpa using g), fun g => by rw [eval_put_ne _ _ _ _ (by decide)]; exact S.t2 (by simpa using g), fun g => by rw [eval_put_ne _ _ _ _ (by decide)]; exact S.t3 (by simpa using g), fun g => by rw [eval_put_ne _ _ _ _ (by decide)]; exact S.t4 (by simpa using g), fun g => by rw [eval_put_ne _ _ _ _ (by decide)]; exact S.t5 (by simpa using g), fun g => by rw [eval_put_ne _ _ _ _ (by decide)]; exact S.t6 (by simpa using g), fun g => by rw [eval_put_ne _ _ _ _ (by decide)]; exact S.t7 (by simpa using g), fun g => by rw [eval_put_ne _ _ _ _ (by decide)]; exact S.t8 (by simpa using g), fun g => (S.t9 (by simpa using g)).imp fun b hb => ⟨by rw [eval_put_ne _ _ _ _ (by decide)]; exact hb.1, hb.2⟩, fun g => by rw [eval_put_ne _ _ _ _ (by decide)]; exact S.t10 (by simpa using g), fun g => by rw [eval_put_ne _ _ _ _ (by decide)]; exact S.t11 (by simpa using g), fun g => by rw [eval_put_ne _ _ _ _ (by decide)]; exact S.t12 (by simpa using g), fun g => by rw [eval_put_ne _ _ _ _ (by decide)]; exact S.t13 (by simpa using g), fun _ => (eval_put _ _ _ (by omega)).trans rfl, fun g => by rw [eval_put_ne _ _ _ _ (by decide)]; exact S.t15 (by simpa using g), fun g => by rw [eval_put_ne _ _ _ _ (by decide)]; exact S.t16 (by simpa using g), fun g => by rw [eval_put_ne _ _ _ _ (by decide)]; exact S.t17 (by simpa using g), fun g => by rw [eval_put_ne _ _ _ _ (by decide)]; exact S.t18 (by simpa using g), fun g => by rw [eval_put_ne _ _ _ _ (by decide)]; exact S.t19 (by simpa using g), fun g => by rw [eval_put_ne _ _ _ _ (by decide)]; exact S.t20 (by simpa using g), fun g => (S.t21 (by simpa using g)).imp fun b hb => ⟨by rw [eval_put_ne _ _ _ _ (by decide)]; exact hb.1, hb.2⟩, fun g => (S.t22 (by simpa using g)).imp fun b hb => ⟨by rw [eval_put_ne _ _ _ _ (by decide)]; exact hb.1, hb.2⟩, fun g => (S.t23 (by simpa using g)).imp fun b hb => ⟨by rw [eval_put_ne _ _ _ _ (by decide)]; exact hb.1, hb.2⟩⟩
    | 15, _, ho, hsi, hT =>
      obtain ⟨e1, e2⟩ := pick_of h15 ho
      have D14 : s 14 = true := list_pos hT (d := 14) (by decide)
      have BW := S.before
      refine step_val (v := .pointer (some ⟨b, 0, none⟩)) (by simp only [execOp, e1, S.t14 D14]; go_simp) (hK _ _ ?_)
      rw [e2]
      exact ⟨S.off.put (by decide) _, S.before, fun g => by rw [eval_put_ne _ _ _ _ (by decide)]; exact S.t0 (by simpa using g), fun g => by rw [eval_put_ne _ _ _ _ (by decide)]; exact S.t1 (by simpa using g), fun g => by rw [eval_put_ne _ _ _ _ (by decide)]; exact S.t2 (by simpa using g), fun g => by rw [eval_put_ne _ _ _ _ (by decide)]; exact S.t3 (by simpa using g), fun g => by rw [eval_put_ne _ _ _ _ (by decide)]; exact S.t4 (by simpa using g), fun g => by rw [eval_put_ne _ _ _ _ (by decide)]; exact S.t5 (by simpa using g), fun g => by rw [eval_put_ne _ _ _ _ (by decide)]; exact S.t6 (by simpa using g), fun g => by rw [eval_put_ne _ _ _ _ (by decide)]; exact S.t7 (by simpa using g), fun g => by rw [eval_put_ne _ _ _ _ (by decide)]; exact S.t8 (by simpa using g), fun g => (S.t9 (by simpa using g)).imp fun b hb => ⟨by rw [eval_put_ne _ _ _ _ (by decide)]; exact hb.1, hb.2⟩, fun g => by rw [eval_put_ne _ _ _ _ (by decide)]; exact S.t10 (by simpa using g), fun g => by rw [eval_put_ne _ _ _ _ (by decide)]; exact S.t11 (by simpa using g), fun g => by rw [eval_put_ne _ _ _ _ (by decide)]; exact S.t12 (by simpa using g), fun g => by rw [eval_put_ne _ _ _ _ (by decide)]; exact S.t13 (by simpa using g), fun g => by rw [eval_put_ne _ _ _ _ (by decide)]; exact S.t14 (by simpa using g), fun _ => (eval_put _ _ _ (by omega)).trans rfl, fun g => by rw [eval_put_ne _ _ _ _ (by decide)]; exact S.t16 (by simpa using g), fun g => by rw [eval_put_ne _ _ _ _ (by decide)]; exact S.t17 (by simpa using g), fun g => by rw [eval_put_ne _ _ _ _ (by decide)]; exact S.t18 (by simpa using g), fun g => by rw [eval_put_ne _ _ _ _ (by decide)]; exact S.t19 (by simpa using g), fun g => by rw [eval_put_ne _ _ _ _ (by decide)]; exact S.t20 (by simpa using g), fun g => (S.t21 (by simpa using g)).imp fun b hb => ⟨by rw [eval_put_ne _ _ _ _ (by decide)]; exact hb.1, hb.2⟩, fun g => (S.t22 (by simpa using g)).imp fun b hb => ⟨by rw [eval_put_ne _ _ _ _ (by decide)]; exact hb.1, hb.2⟩, fun g => (S.t23 (by simpa using g)).imp fun b hb => ⟨by rw [eval_put_ne _ _ _ _ (by decide)]; exact hb.1, hb.2⟩⟩
    | 16, _, ho, hsi, hT =>
      obtain ⟨e1, e2⟩ := pick_of h16 ho
      have D15 : s 15 = true := list_pos hT (d := 15) (by decide)
      have BW := S.before
      refine step_val (v := .pointer (some ⟨b, 3, none⟩)) (by simp only [execOp, e1, S.t15 D15]; go_simp) (hK _ _ ?_)
      rw [e2]
      exact ⟨S.off.put (by decide) _, S.before, fun g => by rw [eval_put_ne _ _ _ _ (by decide)]; exact S.t0 (by simpa using g), fun g => by rw [eval_put_ne _ _ _ _ (by decide)]; exact S.t1 (by simpa using g), fun g => by rw [eval_put_ne _ _ _ _ (by decide)]; exact S.t2 (by simpa using g), fun g => by rw [eval_put_ne _ _ _ _ (by decide)]; exact S.t3 (by simpa using g), fun g => by rw [eval_put_ne _ _ _ _ (by decide)]; exact S.t4 (by simpa using g), fun g => by rw [eval_put_ne _ _ _ _ (by decide)]; exact S.t5 (by simpa using g), fun g => by rw [eval_put_ne _ _ _ _ (by decide)]; exact S.t6 (by simpa using g), fun g => by rw [eval_put_ne _ _ _ _ (by decide)]; exact S.t7 (by simpa using g), fun g => by rw [eval_put_ne _ _ _ _ (by decide)]; exact S.t8 (by simpa using g), fun g => (S.t9 (by simpa using g)).imp fun b hb => ⟨by rw [eval_put_ne _ _ _ _ (by decide)]; exact hb.1, hb.2⟩, fun g => by rw [eval_put_ne _ _ _ _ (by decide)]; exact S.t10 (by simpa using g), fun g => by rw [eval_put_ne _ _ _ _ (by decide)]; exact S.t11 (by simpa using g), fun g => by rw [eval_put_ne _ _ _ _ (by decide)]; exact S.t12 (by simpa using g), fun g => by rw [eval_put_ne _ _ _ _ (by decide)]; exact S.t13 (by simpa using g), fun g => by rw [eval_put_ne _ _ _ _ (by decide)]; exact S.t14 (by simpa using g), fun g => by rw [eval_put_ne _ _ _ _ (by decide)]; exact S.t15 (by simpa using g), fun _ => (eval_put _ _ _ (by omega)).trans rfl, fun g => by rw [eval_put_ne _ _ _ _ (by decide)]; exact S.t17 (by simpa using g), fun g => by rw [eval_put_ne _ _ _ _ (by decide)]; exact S.t18 (by simpa using g), fun g => by rw [eval_put_ne _ _ _ _ (by decide)]; exact S.t19 (by simpa using g), fun g => by rw [eval_put_ne _ _ _ _ (by decide)]; exact S.t20 (by simpa using g), fun g => (S.t21 (by simpa using g)).imp fun b hb => ⟨by rw [eval_put_ne _ _ _ _ (by decide)]; exact hb.1, hb.2⟩, fun g => (S.t22 (by simpa using g)).imp fun b hb => ⟨by rw [eval_put_ne _ _ _ _ (by decide)]; exact hb.1, hb.2⟩, fun g => (S.t23 (by simpa using g)).imp fun b hb => ⟨by rw [eval_put_ne _ _ _ _ (by decide)]; exact hb.1, hb.2⟩⟩
    | 17, _, ho, hsi, hT =>
      obtain ⟨e1, e2⟩ := pick_of h17 ho
      have D16 : s 16 = true := list_pos hT (d := 16) (by decide)
      have BW := S.before
      have cl := (BW.cell (p := ⟨b, 3, none⟩) lb).trans c3
      refine step_val (v := .int .i64 (p : Nat)) (by simp only [execOp, e1, S.t16 D16]; go_simp) (hK _ _ ?_)
      rw [e2]
      exact ⟨S.off.put (by decide) _, S.before, fun g => by rw [eval_put_ne _ _ _ _ (by decide)]; exact S.t0 (by simpa using g), fun g => by rw [eval_put_ne _ _ _ _ (by decide)]; exact S.t1 (by simpa using g), fun g => by rw [eval_put_ne _ _ _ _ (by decide)]; exact S.t2 (by simpa using g), fun g => by rw [eval_put_ne _ _ _ _ (by decide)]; exact S.t3 (by simpa using g), fun g => by rw [eval_put_ne _ _ _ _ (by decide)]; exact S.t4 (by simpa using g), fun g => by rw [eval_put_ne _ _ _ _ (by decide)]; exact S.t5 (by simpa using g), fun g => by rw [eval_put_ne _ _ _ _ (by decide)]; exact S.t6 (by simpa using g), fun g => by rw [eval_put_ne _ _ _ _ (by decide)]; exact S.t7 (by simpa using g), fun g => by rw [eval_put_ne _ _ _ _ (by decide)]; exact S.t8 (by simpa using g), fun g => (S.t9 (by simpa using g)).imp fun b hb => ⟨by rw [eval_put_ne _ _ _ _ (by decide)]; exact hb.1, hb.2⟩, fun g => by rw [eval_put_ne _ _ _ _ (by decide)]; exact S.t10 (by simpa using g), fun g => by rw [eval_put_ne _ _ _ _ (by decide)]; exact S.t11 (by simpa using g), fun g => by rw [eval_put_ne _ _ _ _ (by decide)]; exact S.t12 (by simpa using g), fun g => by rw [eval_put_ne _ _ _ _ (by decide)]; exact S.t13 (by simpa using g), fun g => by rw [eval_put_ne _ _ _ _ (by decide)]; exact S.t14 (by simpa using g), fun g => by rw [eval_put_ne _ _ _ _ (by decide)]; exact S.t15 (by simpa using g), fun g => by rw [eval_put_ne _ _ _ _ (by decide)]; exact S.t16 (by simpa using g), fun _ => (eval_put _ _ _ (by omega)).trans rfl, fun g => by rw [eval_put_ne _ _ _ _ (by decide)]; exact S.t18 (by simpa using g), fun g => by rw [eval_put_ne _ _ _ _ (by decide)]; exact S.t19 (by simpa using g), fun g => by rw [eval_put_ne _ _ _ _ (by decide)]; exact S.t20 (by simpa using g), fun g => (S.t21 (by simpa using g)).imp fun b hb => ⟨by rw [eval_put_ne _ _ _ _ (by decide)]; exact hb.1, hb.2⟩, fun g => (S.t22 (by simpa using g)).imp fun b hb => ⟨by rw [eval_put_ne _ _ _ _ (by decide)]; exact hb.1, hb.2⟩, fun g => (S.t23 (by simpa using g)).imp fun b hb => ⟨by rw [eval_put_ne _ _ _ _ (by decide)]; exact hb.1, hb.2⟩⟩
    | 18, _, ho, hsi, hT =>
      obtain ⟨e1, e2⟩ := pick_of h18 ho
      have D17 : s 17 = true := list_pos hT (d := 17) (by decide)
      have BW := S.before
      refine step_val (v := .int .i64 (p32 : Nat)) (by simp only [execOp, e1, S.t17 D17]; go_simp; rw [IntKind.wrap_i64]; omega) (hK _ _ ?_)
      rw [e2]
      exact ⟨S.off.put (by decide) _, S.before, fun g => by rw [eval_put_ne _ _ _ _ (by decide)]; exact S.t0 (by simpa using g), fun g => by rw [eval_put_ne _ _ _ _ (by decide)]; exact S.t1 (by simpa using g), fun g => by rw [eval_put_ne _ _ _ _ (by decide)]; exact S.t2 (by simpa using g), fun g => by rw [eval_put_ne _ _ _ _ (by decide)]; exact S.t3 (by simpa using g), fun g => by rw [eval_put_ne _ _ _ _ (by decide)]; exact S.t4 (by simpa using g), fun g => by rw [eval_put_ne _ _ _ _ (by decide)]; exact S.t5 (by simpa using g), fun g => by rw [eval_put_ne _ _ _ _ (by decide)]; exact S.t6 (by simpa using g), fun g => by rw [eval_put_ne _ _ _ _ (by decide)]; exact S.t7 (by simpa using g), fun g => by rw [eval_put_ne _ _ _ _ (by decide)]; exact S.t8 (by simpa using g), fun g => (S.t9 (by simpa using g)).imp fun b hb => ⟨by rw [eval_put_ne _ _ _ _ (by decide)]; exact hb.1, hb.2⟩, fun g => by rw [eval_put_ne _ _ _ _ (by decide)]; exact S.t10 (by simpa using g), fun g => by rw [eval_put_ne _ _ _ _ (by decide)]; exact S.t11 (by simpa using g), fun g => by rw [eval_put_ne _ _ _ _ (by decide)]; exact S.t12 (by simpa using g), fun g => by rw [eval_put_ne _ _ _ _ (by decide)]; exact S.t13 (by simpa using g), fun g => by rw [eval_put_ne _ _ _ _ (by decide)]; exact S.t14 (by simpa using g), fun g => by rw [eval_put_ne _ _ _ _ (by decide)]; exact S.t15 (by simpa using g), fun g => by rw [eval_put_ne _ _ _ _ (by decide)]; exact S.t16 (by simpa using g), fun g => by rw [eval_put_ne _ _ _ _ (by decide)]; exact S.t17 (by simpa using g), fun _ => (eval_put _ _ _ (by omega)).trans rfl, fun g => by rw [eval_put_ne _ _ _ _ (by decide)]; exact S.t19 (by simpa using g), fun g => by rw [eval_put_ne _ _ _ _ (by decide)]; exact S.t20 (by simpa using g), fun g => (S.t21 (by simpa using g)).imp fun b hb => ⟨by rw [eval_put_ne _ _ _ _ (by decide)]; exact hb.1, hb.2⟩, fun g => (S.t22 (by simpa using g)).imp fun b hb => ⟨by rw [eval_put_ne _ _ _ _ (by decide)]; exact hb.1, hb.2⟩, fun g => (S.t23 (by simpa using g)).imp fun b hb => ⟨by rw [eval_put_ne _ _ _ _ (by decide)]; exact hb.1, hb.2⟩⟩
    | 19, _, ho, hsi, hT =>
      obtain ⟨e1, e2⟩ := pick_of h19 ho
      have BW := S.before
      refine step_val (v := .int .i64 (en : Nat)) (by simp only [execOp, e1, y7]; go_simp) (hK _ _ ?_)
      rw [e2]
      exact ⟨S.off.put (by decide) _, S.before, fun g => by rw [eval_put_ne _ _ _ _ (by decide)]; exact S.t0 (by simpa using g), fun g => by rw [eval_put_ne _ _ _ _ (by decide)]; exact S.t1 (by simpa using g), fun g => by rw [eval_put_ne _ _ _ _ (by decide)]; exact S.t2 (by simpa using g), fun g => by rw [eval_put_ne _ _ _ _ (by decide)]; exact S.t3 (by simpa using g), fun g => by rw [eval_put_ne _ _ _ _ (by decide)]; exact S.t4 (by simpa using g), fun g => by rw [eval_put_ne _ _ _ _ (by decide)]; exact S.t5 (by simpa using g), fun g => by rw [eval_put_ne _ _ _ _ (by decide)]; exact S.t6 (by simpa using g), fun g => by rw [eval_put_ne _ _ _ _ (by decide)]; exact S.t7 (by simpa using g), fun g => by rw [eval_put_ne _ _ _ _ (by decide)]; exact S.t8 (by simpa using g), fun g => (S.t9 (by simpa using g)).imp fun b hb => ⟨by rw [eval_put_ne _ _ _ _ (by decide)]; exact hb.1, hb.2⟩, fun g => by rw [eval_put_ne _ _ _ _ (by decide)]; exact S.t10 (by simpa using g), fun g => by rw [eval_put_ne _ _ _ _ (by decide)]; exact S.t11 (by simpa using g), fun g => by rw [eval_put_ne _ _ _ _ (by decide)]; exact S.t12 (by simpa using g), fun g => by rw [eval_put_ne _ _ _ _ (by decide)]; exact S.t13 (by simpa using g), fun g => by rw [eval_put_ne _ _ _ _ (by decide)]; exact S.t14 (by simpa using g), fun g => by rw [eval_put_ne _ _ _ _ (by decide)]; exact S.t15 (by simpa using g), fun g => by rw [eval_put_ne _ _ _ _ (by decide)]; exact S.t16 (by simpa using g), fun g => by rw [eval_put_ne _ _ _ _ (by decide)]; exact S.t17 (by simpa using g), fun g => by rw [eval_put_ne _ _ _ _ (by decide)]; exact S.t18 (by simpa using g), fun _ => (eval_put _ _ _ (by omega)).trans rfl, fun g => by rw [eval_put_ne _ _ _ _ (by decide)]; exact S.t20 (by simpa using g), fun g => (S.t21 (by simpa using g)).imp fun b hb => ⟨by rw [eval_put_ne _ _ _ _ (by decide)]; exact hb.1, hb.2⟩, fun g => (S.t22 (by simpa using g)).imp fun b hb => ⟨by rw [eval_put_ne _ _ _ _ (by decide)]; exact hb.1, hb.2⟩, fun g => (S.t23 (by simpa using g)).imp fun b hb => ⟨by rw [eval_put_ne _ _ _ _ (by decide)]; exact hb.1, hb.2⟩⟩
    | 20, _, ho, hsi, hT =>
      obtain ⟨e1, e2⟩ := pick_of h20 ho
      have D13 : s 13 = true := list_pos hT (d := 13) (by decide)
      have D18 : s 18 = true := list_pos hT (d := 18) (by decide)
      have D19 : s 19 = true := list_pos hT (d := 19) (by decide)
      have BW := S.before
      have q61 : a.tmps[61]'(by omega) = .int .i64 (p32 : Nat) := by have := S.t18 D18; simpa [Act.eval, sz] using this
      have q62 : a.tmps[62]'(by omega) = .int .i64 (en : Nat) := by have := S.t19 D19; simpa [Act.eval, sz] using this
      refine step_val (v := .slice (some ⟨g, p32, none⟩) m (cap - p32)) (by simp only [execOp, e1, S.t13 D13]; go_simp; rw [if_pos (by omega), if_pos (by omega), if_neg (by omega), show ((p : Int) + 32).toNat = p + 32 by omega, show ((p : Int) + 32 + (m : Int)).toNat = p + 32 + m by omega, show p + 32 + m - (p + 32) = m by omega]) (hK _ _ ?_)
      rw [e2]
      exact ⟨S.off.put (by decide) _, S.before, fun g => by rw [eval_put_ne _ _ _ _ (by decide)]; exact S.t0 (by simpa using g), fun g => by rw [eval_put_ne _ _ _ _ (by decide)]; exact S.t1 (by simpa using g), fun g => by rw [eval_put_ne _ _ _ _ (by decide)]; exact S.t2 (by simpa using g), fun g => by rw [eval_put_ne _ _ _ _ (by decide)]; exact S.t3 (by simpa using g), fun g => by rw [eval_put_ne _ _ _ _ (by decide)]; exact S.t4 (by simpa using g), fun g => by rw [eval_put_ne _ _ _ _ (by decide)]; exact S.t5 (by simpa using g), fun g => by rw [eval_put_ne _ _ _ _ (by decide)]; exact S.t6 (by simpa using g), fun g => by rw [eval_put_ne _ _ _ _ (by decide)]; exact S.t7 (by simpa using g), fun g => by rw [eval_put_ne _ _ _ _ (by decide)]; exact S.t8 (by simpa using g), fun g => (S.t9 (by simpa using g)).imp fun b hb => ⟨by rw [eval_put_ne _ _ _ _ (by decide)]; exact hb.1, hb.2⟩, fun g => by rw [eval_put_ne _ _ _ _ (by decide)]; exact S.t10 (by simpa using g), fun g => by rw [eval_put_ne _ _ _ _ (by decide)]; exact S.t11 (by simpa using g), fun g => by rw [eval_put_ne _ _ _ _ (by decide)]; exact S.t12 (by simpa using g), fun g => by rw [eval_put_ne _ _ _ _ (by decide)]; exact S.t13 (by simpa using g), fun g => by rw [eval_put_ne _ _ _ _ (by decide)]; exact S.t14 (by simpa using g), fun g => by rw [eval_put_ne _ _ _ _ (by decide)]; exact S.t15 (by simpa using g), fun g => by rw [eval_put_ne _ _ _ _ (by decide)]; exact S.t16 (by simpa using g), fun g => by rw [eval_put_ne _ _ _ _ (by decide)]; exact S.t17 (by simpa using g), fun g => by rw [eval_put_ne _ _ _ _ (by decide)]; exact S.t18 (by simpa using g), fun g => by rw [eval_put_ne _ _ _ _ (by decide)]; exact S.t19 (by simpa using g), fun _ => (eval_put _ _ _ (by omega)).trans rfl, fun g => (S.t21 (by simpa using g)).imp fun b hb => ⟨by rw [eval_put_ne _ _ _ _ (by decide)]; exact hb.1, hb.2⟩, fun g => (S.t22 (by simpa using g)).imp fun b hb => ⟨by rw [eval_put_ne _ _ _ _ (by decide)]; exact hb.1, hb.2⟩, fun g => (S.t23 (by simpa using g)).imp fun b hb => ⟨by rw [eval_put_ne _ _ _ _ (by decide)]; exact hb.1, hb.2⟩⟩
    | 21, _, ho, hsi, hT =>
      obtain ⟨e1, e2⟩ := pick_of h21 ho
      have D9 : s 9 = true := list_pos hT (d := 9) (by decide)
      have D20 : s 20 = true := list_pos hT (d := 20) (by decide)
      have BW := S.before
      obtain ⟨v9, M9, F9⟩ := S.t9 D9
      obtain ⟨B9, rfl⟩ := F9
      refine step_app0 (.tmp 52) (.tmp 63) e1 n0 B9 M9 g p32 m (cap - p32) news (S.t20 D20) hm0 hnl (fun j u hu => by rw [add_off]; exact (BW.cell (p := ⟨g, p32 + j, none⟩) lg).trans (hnews j u hu)) hm1 (Nat.le_trans hn0 BW.size) (fun v w2 FF BB => hK _ _ ?_)
      rw [e2]
      exact ⟨S.off.put (by decide) _, bt BW BB, fun g => by rw [eval_put_ne _ _ _ _ (by decide)]; exact S.t0 (by simpa using g), fun g => by rw [eval_put_ne _ _ _ _ (by decide)]; exact S.t1 (by simpa using g), fun g => by rw [eval_put_ne _ _ _ _ (by decide)]; exact S.t2 (by simpa using g), fun g => by rw [eval_put_ne _ _ _ _ (by decide)]; exact S.t3 (by simpa using g), fun g => by rw [eval_put_ne _ _ _ _ (by decide)]; exact S.t4 (by simpa using g), fun g => by rw [eval_put_ne _ _ _ _ (by decide)]; exact S.t5 (by simpa using g), fun g => by rw [eval_put_ne _ _ _ _ (by decide)]; exact S.t6 (by simpa using g), fun g => by rw [eval_put_ne _ _ _ _ (by decide)]; exact S.t7 (by simpa using g), fun g => by rw [eval_put_ne _ _ _ _ (by decide)]; exact S.t8 (by simpa using g), fun g => (S.t9 (by simpa using g)).imp fun b hb => ⟨by rw [eval_put_ne _ _ _ _ (by decide)]; exact hb.1, (Emp0.mono hb.2 BB)⟩, fun g => by rw [eval_put_ne _ _ _ _ (by decide)]; exact S.t10 (by simpa using g), fun g => by rw [eval_put_ne _ _ _ _ (by decide)]; exact S.t11 (by simpa using g), fun g => by rw [eval_put_ne _ _ _ _ (by decide)]; exact S.t12 (by simpa using g), fun g => by rw [eval_put_ne _ _ _ _ (by decide)]; exact S.t13 (by simpa using g), fun g => by rw [eval_put_ne _ _ _ _ (by decide)]; exact S.t14 (by simpa using g), fun g => by rw [eval_put_ne _ _ _ _ (by decide)]; exact S.t15 (by simpa using g), fun g => by rw [eval_put_ne _ _ _ _ (by decide)]; exact S.t16 (by simpa using g), fun g => by rw [eval_put_ne _ _ _ _ (by decide)]; exact S.t17 (by simpa using g), fun g => by rw [eval_put_ne _ _ _ _ (by decide)]; exact S.t18 (by simpa using g), fun g => by rw [eval_put_ne _ _ _ _ (by decide)]; exact S.t19 (by simpa using g), fun g => by rw [eval_put_ne _ _ _ _ (by decide)]; exact S.t20 (by simpa using g), fun _ => ⟨_, (eval_put _ _ _ (by omega)).trans rfl, FF⟩, fun g => (S.t22 (by simpa using g)).imp fun b hb => ⟨by rw [eval_put_ne _ _ _ _ (by decide)]; exact hb.1, (BkV.mono hb.2 BB)⟩, fun g => (S.t23 (by simpa using g)).imp fun b hb => ⟨by rw [eval_put_ne _ _ _ _ (by decide)]; exact hb.1, (BkS.mono hb.2 BB)⟩⟩
    | 22, _, ho, hsi, hT =>
      obtain ⟨e1, e2⟩ := pick_of h22 ho
      have D4 : s 4 = true := list_pos hT (d := 4) (by decide)
      have D8 : s 8 = true := list_pos hT (d := 8) (by decide)
      have D21 : s 21 = true := list_pos hT (d := 21) (by decide)
      have BW := S.before
      obtain ⟨v21, M21, F21⟩ := S.t21 D21
      obtain ⟨sa4, sc4, rfl⟩ := own_is F21
      have q47 : a.tmps[47]'(by omega) = .int .i64 (p : Nat) := by have := S.t4 D4; simpa [Act.eval, sz] using this
      have q51 : a.tmps[51]'(by omega) = .int .i64 (wr : Nat) := by have := S.t8 D8; simpa [Act.eval, sz] using this
      have q64 : a.tmps[64]'(by omega) = .slice sa4 m sc4 := by have := M21; simpa [Act.eval, sz] using this
      refine step_to1x (Fact := BkV n0 m news p wr) (v := .agg #[.int .i64 (p : Nat), .int .i64 (wr : Nat), .slice sa4 m sc4]) (w2 := w') (by simp only [execOp, e1]; go_simp) ⟨_, rfl, F21⟩ (Below.refl _ _) (fun v w2 FF BB => hK _ _ ?_)
      rw [e2]
      exact ⟨S.off.put (by decide) _, bt BW BB, fun g => by rw [eval_put_ne _ _ _ _ (by decide)]; exact S.t0 (by simpa using g), fun g => by rw [eval_put_ne _ _ _ _ (by decide)]; exact S.t1 (by simpa using g), fun g => by rw [eval_put_ne _ _ _ _ (by decide)]; exact S.t2 (by simpa using g), fun g => by rw [eval_put_ne _ _ _ _ (by decide)]; exact S.t3 (by simpa using g), fun g => by rw [eval_put_ne _ _ _ _ (by decide)]; exact S.t4 (by simpa using g), fun g => by rw [eval_put_ne _ _ _ _ (by decide)]; exact S.t5 (by simpa using g), fun g => by rw [eval_put_ne _ _ _ _ (by decide)]; exact S.t6 (by simpa using g), fun g => by rw [eval_put_ne _ _ _ _ (by decide)]; exact S.t7 (by simpa using g), fun g => by rw [eval_put_ne _ _ _ _ (by decide)]; exact S.t8 (by simpa using g), fun g => (S.t9 (by simpa using g)).imp fun b hb => ⟨by rw [eval_put_ne _ _ _ _ (by decide)]; exact hb.1, (Emp0.mono hb.2 BB)⟩, fun g => by rw [eval_put_ne _ _ _ _ (by decide)]; exact S.t10 (by simpa using g), fun g => by rw [eval_put_ne _ _ _ _ (by decide)]; exact S.t11 (by simpa using g), fun g => by rw [eval_put_ne _ _ _ _ (by decide)]; exact S.t12 (by simpa using g), fun g => by rw [eval_put_ne _ _ _ _ (by decide)]; exact S.t13 (by simpa using g), fun g => by rw [eval_put_ne _ _ _ _ (by decide)]; exact S.t14 (by simpa using g), fun g => by rw [eval_put_ne _ _ _ _ (by decide)]; exact S.t15 (by simpa using g), fun g => by rw [eval_put_ne _ _ _ _ (by decide)]; exact S.t16 (by simpa using g), fun g => by rw [eval_put_ne _ _ _ _ (by decide)]; exact S.t17 (by simpa using g), fun g => by rw [eval_put_ne _ _ _ _ (by decide)]; exact S.t18 (by simpa using g), fun g => by rw [eval_put_ne _ _ _ _ (by decide)]; exact S.t19 (by simpa using g), fun g => by rw [eval_put_ne _ _ _ _ (by decide)]; exact S.t20 (by simpa using g), fun g => (S.t21 (by simpa using g)).imp fun b hb => ⟨by rw [eval_put_ne _ _ _ _ (by decide)]; exact hb.1, (OwnI.mono hb.2 BB)⟩, fun _ => ⟨_, (eval_put _ _ _ (by omega)).trans rfl, FF⟩, fun g => (S.t23 (by simpa using g)).imp fun b hb => ⟨by rw [eval_put_ne _ _ _ _ (by decide)]; exact hb.1, (BkS.mono hb.2 BB)⟩⟩
    | 23, _, ho, hsi, hT =>
      obtain ⟨e1, e2⟩ := pick_of h23 ho
      have D22 : s 22 = true := list_pos hT (d := 22) (by decide)
      have BW := S.before
      obtain ⟨v22, M22, F22⟩ := S.t22 D22
      obtain ⟨sv, rfl, hsv⟩ := F22
      obtain ⟨sa5, sc5, rfl⟩ := own_is hsv
      have q65 : a.tmps[65]'(by omega) = .agg #[.int .i64 (p : Nat), .int .i64 (wr : Nat), .slice sa5 m sc5] := by have := M22; simpa [Act.eval, sz] using this
      refine step_to1x (Fact := BkS n0 m news p wr) (v := .slice (some ⟨w'.heap.size, 0, none⟩) 1 1) (w2 := w'.alloc (.cells #[.int .i64 (p : Nat), .int .i64 (wr : Nat), .slice sa5 m sc5] 50)) (by simp only [execOp, e1]; go_simp) (bkS_new w' hsv) (ba (Below.refl _ _) _) (fun v w2 FF BB => hK _ _ ?_)
      rw [e2]
      exact ⟨S.off.put (by decide) _, bt BW BB, fun g => by rw [eval_put_ne _ _ _ _ (by decide)]; exact S.t0 (by simpa using g), fun g => by rw [eval_put_ne _ _ _ _ (by decide)]; exact S.t1 (by simpa using g), fun g => by rw [eval_put_ne _ _ _ _ (by decide)]; exact S.t2 (by simpa using g), fun g => by rw [eval_put_ne _ _ _ _ (by decide)]; exact S.t3 (by simpa using g), fun g => by rw [eval_put_ne _ _ _ _ (by decide)]; exact S.t4 (by simpa using g), fun g => by rw [eval_put_ne _ _ _ _ (by decide)]; exact S.t5 (by simpa using g), fun g => by rw [eval_put_ne _ _ _ _ (by decide)]; exact S.t6 (by simpa using g), fun g => by rw [eval_put_ne _ _ _ _ (by decide)]; exact S.t7 (by simpa using g), fun g => by rw [eval_put_ne _ _ _ _ (by decide)]; exact S.t8 (by simpa using g), fun g => (S.t9 (by simpa using g)).imp fun b hb => ⟨by rw [eval_put_ne _ _ _ _ (by decide)]; exact hb.1, (Emp0.mono hb.2 BB)⟩, fun g => by rw [eval_put_ne _ _ _ _ (by decide)]; exact S.t10 (by simpa using g), fun g => by rw [eval_put_ne _ _ _ _ (by decide)]; exact S.t11 (by simpa using g), fun g => by rw [eval_put_ne _ _ _ _ (by decide)]; exact S.t12 (by simpa using g), fun g => by rw [eval_put_ne _ _ _ _ (by decide)]; exact S.t13 (by simpa using g), fun g => by rw [eval_put_ne _ _ _ _ (by decide)]; exact S.t14 (by simpa using g), fun g => by rw [eval_put_ne _ _ _ _ (by decide)]; exact S.t15 (by simpa using g), fun g => by rw [eval_put_ne _ _ _ _ (by decide)]; exact S.t16 (by simpa using g), fun g => by rw [eval_put_ne _ _ _ _ (by decide)]; exact S.t17 (by simpa using g), fun g => by rw [eval_put_ne _ _ _ _ (by decide)]; exact S.t18 (by simpa using g), fun g => by rw [eval_put_ne _ _ _ _ (by decide)]; exact S.t19 (by simpa using g), fun g => by rw [eval_put_ne _ _ _ _ (by decide)]; exact S.t20 (by simpa using g), fun g => (S.t21 (by simpa using g)).imp fun b hb => ⟨by rw [eval_put_ne _ _ _ _ (by decide)]; exact hb.1, (OwnI.mono hb.2 BB)⟩, fun g => (S.t22 (by simpa using g)).imp fun b hb => ⟨by rw [eval_put_ne _ _ _ _ (by decide)]; exact hb.1, (BkV.mono hb.2 BB)⟩, fun _ => ⟨_, (eval_put _ _ _ (by omega)).trans rfl, FF⟩⟩
    | _ + 24, il, _, _, _ => exact absurd il (by omega)
  · intro s a w' S hall
    have a0 := hall 0 (by omega)
    have a1 := hall 1 (by omega)
    have a2 := hall 2 (by omega)
    have a3 := hall 3 (by omega)
    have a4 := hall 4 (by omega)
    have a5 := hall 5 (by omega)
    have a6 := hall 6 (by omega)
    have a7 := hall 7 (by omega)
    have a8 := hall 8 (by omega)
    have a9 := hall 9 (by omega)
    have a10 := hall 10 (by omega)
    have a11 := hall 11 (by omega)
    have a12 := hall 12 (by omega)
    have a13 := hall 13 (by omega)
    have a14 := hall 14 (by omega)
    have a15 := hall 15 (by omega)
    have a16 := hall 16 (by omega)
    have a17 := hall 17 (by omega)
    have a18 := hall 18 (by omega)
    have a19 := hall 19 (by omega)
    have a20 := hall 20 (by omega)
    have a21 := hall 21 (by omega)
    have a22 := hall 22 (by omega)
    have a23 := hall 23 (by omega)
    have e := off_norm _ (by intro d hd; simp at hd; omega) S.off
    obtain ⟨v9, M9, F9⟩ := S.t9 a9
    obtain ⟨v21, M21, F21⟩ := S.t21 a21
    obtain ⟨v22, M22, F22⟩ := S.t22 a22
    obtain ⟨v23, M23, F23⟩ := S.t23 a23
    simp only [List.foldl, S.t0 a0, S.t1 a1, S.t2 a2, S.t3 a3, S.t4 a4, S.t5 a5, S.t6 a6, S.t7 a7, S.t8 a8, M9, S.t10 a10, S.t11 a11, S.t12 a12, S.t13 a13, S.t14 a14, S.t15 a15, S.t16 a16, S.t17 a17, S.t18 a18, S.t19 a19, S.t20 a20, M21, M22, M23] at e
    rw [e]
    exact h _ _ _ _ _ S.before F9 F21 F22 F23
end Go.Proofs.Ytlfnglinalmpjaa
