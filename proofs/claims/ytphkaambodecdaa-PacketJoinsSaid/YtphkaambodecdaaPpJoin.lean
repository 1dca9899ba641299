/- Layer 9, the landed program: a joiner in memory: a map of structs that hold slices. -/
import Derived.Test.YtphkaambodecdaaPpAdd
import Derived.Maps.OwnSet
import Derived.Maps.RangeWalk
namespace Go.Proofs.Ytphkaambodecdaa
open Go.RowKit
set_option linter.unusedVariables false
set_option maxRecDepth 100000

/-- What is kept: all that lies below base, all blocks of cells of other types than some, and, if told so, all maps. -/
structure Kp (base : Nat) (ts : List TypeId) (mp : Bool) (w w' : World) : Prop where
  below : Below base w w'
  cells : ∀ (b : Nat) cur t fr, w.heap[b]? = some (Obj.cells cur t fr) → t ∉ ts → w'.heap[b]? = w.heap[b]?
  maps : mp = false → ∀ (b : Nat) es c, w.heap[b]? = some (Obj.map es c) → w'.heap[b]? = w.heap[b]?
namespace Kp
variable {base : Nat} {ts : List TypeId} {mp : Bool} {w w1 w2 : World}
theorem of_below (h : Below w.heap.size w w1) (hb : base ≤ w.heap.size) : Kp base ts mp w w1 :=
  ⟨h.mono hb, fun b cur t fr e _ => h.block b (Array.getElem?_eq_some_iff.1 e).1, fun _ b es c e => h.block b (Array.getElem?_eq_some_iff.1 e).1⟩
theorem trans (h : Kp base ts mp w w1) (k : Kp base ts mp w1 w2) : Kp base ts mp w w2 :=
  ⟨h.below.trans k.below, fun b cur t fr e hn => (k.cells b cur t fr ((h.cells b cur t fr e hn).trans e) hn).trans (h.cells b cur t fr e hn), fun hm b es c e => (k.maps hm b es c ((h.maps hm b es c e).trans e)).trans (h.maps hm b es c e)⟩
theorem mono {b2 : Nat} (h : Kp base ts mp w w1) (hb : b2 ≤ base) : Kp b2 ts mp w w1 := ⟨h.below.mono hb, h.cells, h.maps⟩
theorem refl (base : Nat) (ts : List TypeId) (mp : Bool) (w : World) : Kp base ts mp w w := ⟨Below.refl _ _, fun _ _ _ _ _ _ => rfl, fun _ _ _ _ _ => rfl⟩
theorem own (k : Kp base ts mp w w1) {n0 e size n : Nat} {v : Value} {xs : List Value} (h : w.ownsRow n0 e size v n xs) (ht : e ∉ ts) : w1.ownsRow n0 e size v n xs := by
  obtain ⟨hl, h⟩ := h
  refine ⟨hl, ?_⟩
  rcases h with q | ⟨g, c, cur, q1, q2, q3, q4⟩
  · exact .inl q
  · exact .inr ⟨g, c, cur, q1, q2, (k.cells g cur e _ q3 ht).trans q3, q4⟩
end Kp

/-- An element of the map. -/
def knV (x : Int) (sv : Value) : Value := .agg #[.int .i64 x, sv]
/-- How an element reads: as itself. -/
def knR (v : Value) : Option (DataW Value × List MemPlace) := match v with
  | .agg cs => match cs.toList with
    | [.int .i64 _, .slice _ _ _] => some (.held v, [])
    | _ => none
  | _ => none
theorem knR_mk (x : Int) (a : Option Addr) (n c : Nat) : knR (knV x (.slice a n c)) = some (.held (knV x (.slice a n c)), []) := rfl
theorem knR_inv {v : Value} {y : DataW Value × List MemPlace} (h : knR v = some y) : (∃ x a n c, v = knV x (.slice a n c)) ∧ y = (.held v, []) := by
  unfold knR at h
  split at h
  · rename_i cs
    split at h
    · rename_i x a n c e
      cases h
      refine ⟨⟨x, a, n, c, ?_⟩, rfl⟩
      unfold knV
      congr 1
      apply Array.toList_inj.1
      exact e
    · cases h
  · cases h
theorem keyLaw : Maps.Keyed Try.prog 3 := Maps.int_keyed Try.underlying3
theorem keyOf_i (a : Int) (h : (Lit.int .i64 a).wf = true) : keyOf Try.prog 3 (.int .i64 a) = some (.int .i64 a) := Maps.keyOf_int_mk Try.underlying3 h
theorem zeroKn (w : World) : (zeroValue 75).run Try.prog w = .ok (knV 0 (.slice none 0 0)) w := by kernel_rfl
theorem wf_ap {a : Int} (h : 0 ≤ a ∧ a ≤ 2047) : (Lit.int .i64 a).wf = true := WalkArith.wf_i64 (by omega)

/-- The joiner in memory. -/
structure PJ (w : World) (n0 j m cnt : Nat) (F : Int → Option Pk.St) (D : DataW Value) (S : Int → Value) : Prop where
  jl : n0 ≤ j
  ml : n0 ≤ m
  jt : ∃ cur fr, w.heap[j]? = some (.cells cur 50 fr)
  c0 : w.cell? ⟨j, 0, none⟩ = some (.pointer (some ⟨j, 0, none⟩))
  c1 : w.cell? ⟨j, 1, none⟩ = some (.map (some m))
  own : w.ownsMap Try.prog 3 knR m cnt D
  key : ∀ kl, Maps.has D kl = true → ∃ a, kl = .int .i64 a ∧ (F a).isSome = true
  elt : ∀ a st, F a = some st → (0 ≤ a ∧ a ≤ 2046) ∧ (0 ≤ st.next ∧ st.next ≤ 16383) ∧ st.op ≠ some [] ∧ Maps.has D (.int .i64 a) = true ∧ (∀ z, D.atKey (.int .i64 a) z = .held (knV st.next (S a))) ∧
    (∃ sa n c, S a = .slice sa n c ∧ n = (Pk.txt (some st)).length ∧ n ≤ 16384) ∧ Txt w n0 (S a) (Pk.txt (some st))
  apart : ∀ a b, (F a).isSome = true → (F b).isSome = true → a ≠ b → ∀ k, (S a).ownBlock = some k → (S b).ownBlock ≠ some k
namespace PJ
variable {w w' : World} {n0 j m cnt : Nat} {F : Int → Option Pk.St} {D : DataW Value} {S : Int → Value}
theorem jlt (h : PJ w n0 j m cnt F D S) : j < w.heap.size := by
  obtain ⟨cur, fr, e⟩ := h.jt
  exact (Array.getElem?_eq_some_iff.1 e).1
theorem jm (h : PJ w n0 j m cnt F D S) : j ≠ m := fun e => by
  obtain ⟨cur, fr, e1⟩ := h.jt
  obtain ⟨es, c, e2, _⟩ := h.own
  rw [e, e2] at e1
  cases e1
/-- The joiner stays, if its blocks do. -/
theorem stay (h : PJ w n0 j m cnt F D S) (hj : w'.heap[j]? = w.heap[j]?) (hm : w'.heap[m]? = w.heap[m]?) (hs : ∀ a k, (F a).isSome = true → (S a).ownBlock = some k → w'.heap[k]? = w.heap[k]?) : PJ w' n0 j m cnt F D S where
  jl := h.jl
  ml := h.ml
  jt := by obtain ⟨cur, fr, e⟩ := h.jt; exact ⟨cur, fr, hj.trans e⟩
  c0 := (World.cell?_of_block (a := ⟨j, 0, none⟩) hj).trans h.c0
  c1 := (World.cell?_of_block (a := ⟨j, 1, none⟩) hj).trans h.c1
  own := by obtain ⟨es, c, e, r⟩ := h.own; exact ⟨es, c, hm.trans e, r⟩
  key := h.key
  elt := fun a st e => by
    obtain ⟨h1, h2, h3, h4, h5, h6, h7⟩ := h.elt a st e
    exact ⟨h1, h2, h3, h4, h5, h6, own_keep h7 (fun k hk _ => hs a k (by rw [e]; rfl) hk)⟩
  apart := h.apart
theorem below (h : PJ w n0 j m cnt F D S) (hb : Below w.heap.size w w') : PJ w' n0 j m cnt F D S :=
  h.stay (hb.block j h.jlt) (hb.block m h.own.lt) (fun a k hs hk => by
    obtain ⟨st, e⟩ := Option.isSome_iff_exists.1 hs
    exact hb.block k (own_block_lt (h.elt a st e).2.2.2.2.2.2 hk))
theorem kp {base : Nat} {ts : List TypeId} (h : PJ w n0 j m cnt F D S) (k : Kp base ts false w w') (t1 : 50 ∉ ts) (t2 : 5 ∉ ts) : PJ w' n0 j m cnt F D S := by
  refine h.stay ?_ ?_ (fun a g hs hk => ?_)
  · obtain ⟨cur, fr, e⟩ := h.jt
    exact k.cells j cur _ fr e t1
  · obtain ⟨es, c, e, _⟩ := h.own
    exact k.maps rfl m es c e
  · obtain ⟨st, e⟩ := Option.isSome_iff_exists.1 hs
    have R := (h.elt a st e).2.2.2.2.2.2
    obtain ⟨_, R⟩ := R
    rcases R with ⟨q, _⟩ | ⟨g', c, cur, q1, q2, q3, _⟩
    · rw [q] at hk; cases hk
    · rw [q1] at hk
      cases hk
      exact k.cells _ cur _ _ q3 t2
/-- What a look-up of an APID finds. -/
def val (F : Int → Option Pk.St) (S : Int → Value) (a : Int) : Value := match F a with
  | some st => knV st.next (S a)
  | none => knV 0 (.slice none 0 0)
theorem look (h : PJ w n0 j m cnt F D S) {a : Int} (ha : 0 ≤ a ∧ a ≤ 2047) : ∀ w', w'.heap[m]? = w.heap[m]? → (Instr.lookup 48 (.map (some m)) (.int .i64 a) true).run Try.prog w' = .ok (.tuple #[val F S a, .bool (F a).isSome]) w' := fun w' hm => by
  have own : w'.ownsMap Try.prog 3 knR m cnt D := by obtain ⟨es, c, e, r⟩ := h.own; exact ⟨es, c, hm.trans e, r⟩
  obtain ⟨v, ps, hr, hv⟩ := own.look_ok keyLaw Try.underlying48 (zeroKn w') (zd := .held (knV 0 (.slice none 0 0))) (zp := []) rfl (keyOf_i a (wf_ap ha))
  obtain ⟨_, hy⟩ := knR_inv hv
  simp only [Prod.mk.injEq] at hy
  rw [hr]
  unfold val
  cases hF : F a with
  | none =>
    have hn : Maps.has D (.int .i64 a) = false := by
      cases e : Maps.has D (.int .i64 a) with
      | false => rfl
      | true =>
        obtain ⟨b, hb, hs⟩ := h.key _ e
        cases hb
        rw [hF] at hs
        cases hs
    rw [Maps.atKey_of_not_has hn] at hy
    have := hy.1
    simp only [DataW.held.injEq] at this
    rw [hn, ← this]
    rfl
  | some st =>
    obtain ⟨_, _, _, h4, h5, _⟩ := h.elt a st hF
    rw [h5] at hy
    have := hy.1
    simp only [DataW.held.injEq] at this
    rw [h4, ← this]
    rfl
end PJ
/-- One key changed. -/
def upd {α : Type} (f : Int → α) (a : Int) (v : α) : Int → α := fun b => if b = a then v else f b
theorem upd_same {α : Type} (f : Int → α) (a : Int) (v : α) : upd f a v a = v := if_pos rfl
theorem upd_ne {α : Type} (f : Int → α) {a b : Int} (v : α) (h : b ≠ a) : upd f a v b = f b := if_neg h
theorem txt_toOp (x : Int) (l : List UInt8) : Pk.txt (some ⟨x, Pk.toOp l⟩) = l := by
  unfold Pk.txt Pk.opn Pk.toOp
  by_cases h : l = []
  · rw [h]; rfl
  · simp [h]
/-- The store of an APID. -/
theorem PJ.put {w0 w w' : World} {n0 j m cnt : Nat} {F : Int → Option Pk.St} {D : DataW Value} {S : Int → Value} {a : Int} (h : PJ w0 n0 j m cnt F D S) (hj : w.heap[j]? = w0.heap[j]?) (hm : w.heap[m]? = w0.heap[m]?) (hs : ∀ b k, (F b).isSome = true → b ≠ a → (S b).ownBlock = some k → w.heap[k]? = w0.heap[k]?) (ha : 0 ≤ a ∧ a ≤ 2046) {x : Int} (hx : 0 ≤ x ∧ x ≤ 16383) {tx : List UInt8} {sa : Option Addr} {n c : Nat} (hn : n = tx.length) (hn2 : n ≤ 16384)
    (R : Txt w n0 (.slice sa n c) tx) (hap : ∀ b, (F b).isSome = true → b ≠ a → ∀ k, (Value.slice sa n c).ownBlock = some k → (S b).ownBlock ≠ some k)
    (own : w'.ownsMap Try.prog 3 knR m (cnt + 1) (D.put (.int .i64 a) (.held (knV x (.slice sa n c))))) (g : w.grownBy w' (some m)) :
    PJ w' n0 j m (cnt + 1) (upd F a (some ⟨x, Pk.toOp tx⟩)) (D.put (.int .i64 a) (.held (knV x (.slice sa n c)))) (upd S a (.slice sa n c)) where
  jl := h.jl
  ml := h.ml
  jt := by obtain ⟨cur, fr, e⟩ := h.jt; exact ⟨cur, fr, ((g.block j (by rw [e] at hj; exact (Array.getElem?_eq_some_iff.1 hj).1) (fun q => h.jm (Option.some.inj q))).trans hj).trans e⟩
  c0 := (World.cell?_of_block (a := ⟨j, 0, none⟩) ((g.block j (by obtain ⟨cur, fr, e⟩ := h.jt; rw [e] at hj; exact (Array.getElem?_eq_some_iff.1 hj).1) (fun q => h.jm (Option.some.inj q))).trans hj)).trans h.c0
  c1 := (World.cell?_of_block (a := ⟨j, 1, none⟩) ((g.block j (by obtain ⟨cur, fr, e⟩ := h.jt; rw [e] at hj; exact (Array.getElem?_eq_some_iff.1 hj).1) (fun q => h.jm (Option.some.inj q))).trans hj)).trans h.c1
  own := own
  key := fun kl hk => by
    by_cases e : kl = .int .i64 a
    · exact ⟨a, e, by rw [upd_same]; rfl⟩
    · rw [Maps.has_put_other e] at hk
      obtain ⟨b, hb, hs⟩ := h.key kl hk
      refine ⟨b, hb, ?_⟩
      rw [upd_ne _ _ (fun q => e (by rw [hb, q]))]
      exact hs
  elt := fun b st e => by
    by_cases q : b = a
    · subst q
      rw [upd_same] at e
      cases e
      rw [upd_same, txt_toOp]
      refine ⟨ha, hx, Pk.toOp_ne tx, Maps.has_put_same h.own.isMap (show WideAt.IsKeyLit (.int .i64 b) from trivial) _, fun z => Maps.atKey_put_same h.own.isMap (show WideAt.IsKeyLit (.int .i64 b) from trivial) _ _, ⟨sa, n, c, rfl, hn, hn2⟩, own_keep R (fun k hk hl => g.block k hl (fun q => ?_))⟩
      cases q
      obtain ⟨es, cl, e1, _⟩ := h.own
      rw [← hm] at e1
      obtain ⟨_, R2⟩ := R
      rcases R2 with ⟨q, _⟩ | ⟨g', c', cur, q1, q2, q3, _⟩
      · rw [q] at hk; cases hk
      · rw [q1] at hk
        cases hk
        rw [e1] at q3
        cases q3
    · rw [upd_ne _ _ q] at e
      obtain ⟨h1, h2, h3, h4, h5, h6, h7⟩ := h.elt b st e
      have kn : Lit.int .i64 b ≠ Lit.int .i64 a := fun e => by cases e; exact q rfl
      rw [upd_ne _ _ q]
      refine ⟨h1, h2, h3, by rw [Maps.has_put_other kn]; exact h4, fun z => by rw [Maps.atKey_put_other kn]; exact h5 z, h6, own_keep (own_keep (w' := w) h7 (fun k hk _ => hs b k (by rw [e]; rfl) q hk)) (fun k hk hl => g.block k hl (fun q => ?_))⟩
      cases q
      obtain ⟨es, cl, e1, _⟩ := h.own
      obtain ⟨_, R2⟩ := h7
      rcases R2 with ⟨q, _⟩ | ⟨g', c', cur, q1, q2, q3, _⟩
      · rw [q] at hk; cases hk
      · rw [q1] at hk
        cases hk
        rw [e1] at q3
        cases q3
  apart := fun b d hb hd hbd k hk => by
    by_cases q : b = a
    · subst q
      rw [upd_same] at hk
      rw [upd_ne _ _ (fun e => hbd e.symm)] at hd ⊢
      exact hap d hd (fun e => hbd e.symm) k hk
    · rw [upd_ne _ _ q] at hb hk
      by_cases q2 : d = a
      · subst q2
        rw [upd_same]
        exact fun e => hap b hb q k e hk
      · rw [upd_ne _ _ q2] at hd ⊢
        exact h.apart b d hb hd hbd k hk
end Go.Proofs.Ytphkaambodecdaa
