/- Layer 8, the landed program: the finder while Feed runs, and what one value does. -/
import Derived.Test.YtlfnglinalmpjaaMkPKit
namespace Go.Proofs.Ytlfnglinalmpjaa
open Go.RowKit
set_option linter.unusedVariables false

/-- The function that hands out a block. -/
def hnd (Q0 : Nat) : Value := .func (.func 37) #[] #[.pointer (some ⟨Q0, 0, none⟩)]
/-- Lists of blocks as cells; their values lie in blocks of memory with S. -/
def BlkS (w : World) (S : Nat → Prop) : List (Nat × Nat × List Int) → List Value → Prop
  | [], cs => cs = []
  | x :: r, cs => ∃ sv cs', cs = .int .i64 (x.1 : Nat) :: .int .i64 (x.2.1 : Nat) :: sv :: cs' ∧ w.ownsRow 0 3 1 sv x.2.2.length (x.2.2.map (Value.int .i64)) ∧ (∀ k, sv.ownBlock = some k → S k) ∧ BlkS w S r cs'
theorem BlkS.snoc {w : World} {S : Nat → Prop} {p k : Nat} {zs : List Int} {sv : Value} (hv : w.ownsRow 0 3 1 sv zs.length (zs.map (Value.int .i64))) (hs : ∀ k, sv.ownBlock = some k → S k) : ∀ {l : List (Nat × Nat × List Int)} {cs : List Value}, BlkS w S l cs → BlkS w S (l ++ [(p, k, zs)]) (cs ++ [.int .i64 (p : Nat), .int .i64 (k : Nat), sv])
  | [], cs, h => by
    have h' : cs = [] := h
    subst h'
    exact ⟨sv, [], rfl, hv, hs, rfl⟩
  | x :: r, cs, ⟨s, cs', e, ho, h1, h⟩ => by
    subst e
    exact ⟨s, _, rfl, ho, h1, BlkS.snoc hv hs h⟩
theorem BlkS.keep {w w' : World} {S S' : Nat → Prop} (hS : ∀ k, S k → S' k) (hk : ∀ g, S g → g < w.heap.size → w'.heap[g]? = w.heap[g]?) : ∀ {l : List (Nat × Nat × List Int)} {cs : List Value}, BlkS w S l cs → BlkS w' S' l cs
  | [], cs, h => h
  | x :: r, cs, ⟨s, cs', e, ho, h1, h⟩ => ⟨s, cs', e, own_keep ho (fun g hg hl => hk g (h1 g hg) hl), fun k hk' => hS k (h1 k hk'), BlkS.keep hS hk h⟩
/-- Blocks of one's own are read. -/
theorem blkS_own {w : World} {n1 : Nat} {S P : Nat → Prop} {ov : Value} {l : List (Nat × Nat × List Int)} {cs : List Value} (h : w.ownsRow n1 50 3 ov l.length cs) (C : BlkS w S l cs) (hS : ∀ k, S k → P k) (ho : ∀ k, ov.ownBlock = some k → P k) : ∃ a cap, ov = .slice a l.length cap ∧ l.length ≤ cap ∧ BlkR P w a l := by
  rcases h.2 with ⟨rfl, h0⟩ | ⟨g, cap, cur, rfl, hb, hg, hc, _⟩
  · exact ⟨none, 0, by rw [h0], by omega, .inl (List.eq_nil_of_length_eq_zero h0)⟩
  · refine ⟨_, cap, rfl, hc, .inr ⟨g, 0, rfl, ho g rfl, (Array.getElem?_eq_some_iff.1 hg).1, ?_⟩⟩
    have at' : ∀ j u, cs[j]? = some u → w.cell? ⟨g, j, none⟩ = some u := fun j u hu => by
      have := h.cells (g := g) rfl j u hu
      rwa [add_off, Nat.zero_add] at this
    have key : ∀ (l : List (Nat × Nat × List Int)) (cs : List Value) (p : Nat), BlkS w S l cs → (∀ j u, cs[j]? = some u → w.cell? ⟨g, p + j, none⟩ = some u) → ∀ i x, l[i]? = some x → w.cell? ⟨g, p + i * 3, none⟩ = some (.int .i64 (x.1 : Nat)) ∧ w.cell? ⟨g, p + i * 3 + 1, none⟩ = some (.int .i64 (x.2.1 : Nat)) ∧
        ∃ sa c, w.cell? ⟨g, p + i * 3 + 2, none⟩ = some (.slice sa x.2.2.length c) ∧ Ints w sa x.2.2 ∧ ∀ g o, sa = some ⟨g, o, none⟩ → x.2.2 ≠ [] → P g := by
      intro l
      induction l with
      | nil => intro cs p _ _ i x hx; simp at hx
      | cons y r ih =>
        intro cs p hC ha i x hx
        obtain ⟨sv, cs', rfl, ho, h1, hC'⟩ := hC
        match i, hx with
        | 0, hx =>
          simp only [List.getElem?_cons_zero, Option.some.injEq] at hx
          subst hx
          obtain ⟨sa, sc, rfl⟩ := own_is ho
          obtain ⟨hi, _, _⟩ := ints_of_own ho
          refine ⟨by simpa using ha 0 _ rfl, by simpa using ha 1 _ rfl, sa, sc, by simpa using ha 2 _ rfl, hi, fun g' o e _ => ?_⟩
          subst e
          exact hS _ (h1 _ rfl)
        | i + 1, hx =>
          have := ih cs' (p + 3) hC' (fun j u hu => by
            have := ha (j + 3) u (by simpa using hu)
            rwa [show p + (j + 3) = p + 3 + j by omega] at this) i x (by simpa using hx)
          rw [show p + (i + 1) * 3 = p + 3 + i * 3 by omega]
          exact this
    exact key l cs 0 C (fun j u hu => by rw [Nat.zero_add]; exact at' j u hu)
/-- The finder while Feed runs, since w0. -/
structure Tk (own0 : Nat → Prop) (w0 : World) (P Q0 len base : Nat) (w : World) (T ms : Nat) (lk : Bool) (ks : List Int) (kv bv : Value) (S : Nat → Prop) (l : List (Nat × Nat × List Int)) (cs : List Value) : Prop where
  obj : Cel w P 7 (pobj ⟨P, 0, none⟩ len T lk ms kv (hnd Q0))
  row : w.ownsRow base 3 1 kv ks.length (ks.map (Value.int .i64))
  box : Cel w Q0 1 (fun _ => bv)
  out : w.ownsRow w0.heap.size 50 3 bv l.length cs
  blk : BlkS w S l cs
  oP : own0 P
  ol : ∀ k, own0 k → k < w0.heap.size
  kn : ∀ k, kv.ownBlock = some k → k ≠ P ∧ k ≠ Q0 ∧ (own0 k ∨ w0.heap.size ≤ k)
  bn : ∀ k, bv.ownBlock = some k → k ≠ Q0 ∧ kv.ownBlock ≠ some k
  sn : ∀ k, S k → k ≠ Q0 ∧ w0.heap.size ≤ k ∧ kv.ownBlock ≠ some k ∧ bv.ownBlock ≠ some k ∧ k < w.heap.size
  q0 : w0.heap.size ≤ Q0
  but : Buts own0 w0 w
  base0 : base ≤ w0.heap.size
namespace Tk
variable {own0 S : Nat → Prop} {w0 w w' : World} {P Q0 len base T ms T' ms' : Nat} {lk lk' : Bool} {ks ks' : List Int} {kv kv' bv bv' : Value} {l : List (Nat × Nat × List Int)} {cs : List Value}
theorem pl (h : Tk own0 w0 P Q0 len base w T ms lk ks kv bv S l cs) : P < w0.heap.size := h.ol P h.oP
theorem bge (h : Tk own0 w0 P Q0 len base w T ms lk ks kv bv S l cs) : ∀ k, bv.ownBlock = some k → w0.heap.size ≤ k ∧ k < w.heap.size := fun k hk => h.out.lt k hk
theorem below (h : Tk own0 w0 P Q0 len base w T ms lk ks kv bv S l cs) (hb : Below w.heap.size w w') : Tk own0 w0 P Q0 len base w' T ms lk ks kv bv S l cs :=
  ⟨h.obj.below hb, own_below h.row hb, h.box.below hb, own_below h.out hb, h.blk.keep (fun _ q => q) (fun g _ hl => hb.block g hl), h.oP, h.ol, h.kn, h.bn, fun k hk => ⟨(h.sn k hk).1, (h.sn k hk).2.1, (h.sn k hk).2.2.1, (h.sn k hk).2.2.2.1, Nat.lt_of_lt_of_le (h.sn k hk).2.2.2.2 hb.size⟩, h.q0, h.but.trans (Buts.of_below hb), h.base0⟩
theorem kept (h : Tk own0 w0 P Q0 len base w T ms lk ks kv bv S l cs) (hb : Buts (fun k => k = P ∨ kv.ownBlock = some k) w w') (obj' : Cel w' P 7 (pobj ⟨P, 0, none⟩ len T' lk' ms' kv' (hnd Q0))) (row' : w'.ownsRow base 3 1 kv' ks'.length (ks'.map (Value.int .i64))) (hk : ∀ k, kv'.ownBlock = some k → kv.ownBlock = some k ∨ w.heap.size ≤ k) : Tk own0 w0 P Q0 len base w' T' ms' lk' ks' kv' bv S l cs := by
  have pl := h.pl
  have q0 := h.q0
  have s0 := h.but.size
  have ql := h.box.1
  have pw := h.obj.1
  refine ⟨obj', row', h.box.of_block (hb.block Q0 ql (fun e => ?_)), own_keep h.out (fun g hg hl => hb.block g hl (fun e => ?_)), h.blk.keep (fun _ q => q) (fun g hg hl => hb.block g hl (fun e => ?_)), h.oP, h.ol, fun k e => ?_, fun k e => ⟨(h.bn k e).1, fun q => ?_⟩, fun k e => ?_, h.q0, h.but.then_new hb (fun c hc q => ?_), h.base0⟩
  · rcases e with e | e
    · omega
    · exact (h.kn _ e).2.1 rfl
  · rcases e with e | e
    · have := (h.bge g hg).1
      omega
    · exact (h.bn g hg).2 e
  · rcases e with e | e
    · have := (h.sn g hg).2.1
      omega
    · exact (h.sn g hg).2.2.1 e
  · rcases hk k e with q | q
    · exact h.kn k q
    · exact ⟨by omega, by omega, .inr (by omega)⟩
  · rcases hk k q with r | r
    · exact (h.bn k e).2 r
    · have := (h.bge k e).2
      omega
  · obtain ⟨a1, a2, a3, a4, a5⟩ := h.sn k e
    refine ⟨a1, a2, fun q => ?_, a4, Nat.lt_of_lt_of_le a5 hb.size⟩
    rcases hk k q with r | r
    · exact a3 r
    · omega
  · rcases q with q | q
    · exact q ▸ h.oP
    · rcases (h.kn c q).2.2 with r | r
      · exact r
      · omega
theorem hand {w1 w2 : World} {p wr : Nat} {zs : List Int} {sv : Value} (h : Tk own0 w0 P Q0 len base w T ms lk ks kv bv S l cs) (B : Below w.heap.size w w1) (hsv : w1.ownsRow w.heap.size 3 1 sv zs.length (zs.map (Value.int .i64)))
    (C : Cel w2 Q0 1 (fun _ => bv')) (R : w2.ownsRow w0.heap.size 50 3 bv' (l.length + 1) (cs ++ [.int .i64 (p : Nat), .int .i64 (wr : Nat), sv])) (hn : ∀ k, bv'.ownBlock = some k → bv.ownBlock = some k ∨ w1.heap.size ≤ k) (hb : Buts (fun k => k = Q0 ∨ bv.ownBlock = some k) w1 w2) :
    Tk own0 w0 P Q0 len base w2 T ms lk ks kv bv' (fun k => S k ∨ sv.ownBlock = some k) (l ++ [(p, wr, zs)]) (cs ++ [.int .i64 (p : Nat), .int .i64 (wr : Nat), sv]) := by
  have h1 := h.below B
  have pl := h.pl
  have q0 := h.q0
  have s0 := h.but.size
  have s1 := B.size
  have s2 := hb.size
  have pw := h1.obj.1
  have svn : ∀ k, sv.ownBlock = some k → w.heap.size ≤ k ∧ k < w1.heap.size := fun k hk => hsv.lt k hk
  have klt : ∀ k, kv.ownBlock = some k → k < w.heap.size := fun k hk => (h.row.lt k hk).2
  have ql := h.box.1
  have nsv : ∀ k, sv.ownBlock = some k → ¬ (k = Q0 ∨ bv.ownBlock = some k) := fun k hk e => by
    have := svn k hk
    rcases e with e | e
    · omega
    · have := (h.bge k e).2
      omega
  refine ⟨h1.obj.of_block (hb.block P pw (fun e => ?_)), own_keep h1.row (fun g hg hl => hb.block g hl (fun e => ?_)), C, by rw [List.length_append]; exact R, BlkS.snoc (own_mono (own_keep hsv (fun g hg hl => hb.block g hl (nsv g hg))) (Nat.zero_le _)) (fun k hk => .inr hk) (h1.blk.keep (fun _ q => .inl q) (fun g hg hl => hb.block g hl (fun e => ?_))), h.oP, h.ol, h.kn, fun k e => ?_, fun k e => ?_, h.q0, h1.but.then_new hb (fun c hc q => ?_), h.base0⟩
  · rcases e with e | e
    · omega
    · have := (h.bge P e).1
      omega
  · rcases e with e | e
    · exact (h.kn g hg).2.1 e
    · exact (h.bn g e).2 hg
  · rcases e with e | e
    · exact (h.sn g hg).1 e
    · exact (h.sn g hg).2.2.2.1 e
  · rcases hn k e with q | q
    · exact h.bn k q
    · exact ⟨by omega, fun r => by have := klt k r; omega⟩
  · rcases e with e | e
    · obtain ⟨a1, a2, a3, a4, a5⟩ := h.sn k e
      refine ⟨a1, a2, a3, fun q => ?_, by omega⟩
      rcases hn k q with r | r
      · exact a4 r
      · omega
    · have sk := svn k e
      refine ⟨by omega, by omega, fun q => by have := klt k q; omega, fun q => ?_, by omega⟩
      rcases hn k q with r | r
      · have := (h.bge k r).2
        omega
      · omega
  · rcases q with q | q
    · omega
    · have := (h.bge c q).1
      omega
end Tk
/-- What one value does: misses, locked, the values kept, the block. -/
def tkF (len T ms : Nat) (lk : Bool) (k1 : List Int) : Nat × Bool × List Int × List (Nat × Nat × List Int) :=
  if k1.length = 32 then
    (ntM lk ms (decide (Mk.wrongAt (fz k1) 0 32 ≤ 2)), ntL lk ms (decide (Mk.wrongAt (fz k1) 0 32 ≤ 2)), if ntL lk ms (decide (Mk.wrongAt (fz k1) 0 32 ≤ 2)) = true then k1 else k1.drop 1, [])
  else if k1.length = 32 + len then (ms, lk, [], [(T - k1.length, Mk.wrongAt (fz k1) 0 32, k1.drop 32)])
  else (ms, lk, k1, [])
/-- What take leaves. -/
def TkP (own0 : Nat → Prop) (w0 : World) (P Q0 len base T : Nat) (l : List (Nat × Nat × List Int)) (q : Nat × Bool × List Int × List (Nat × Nat × List Int)) (e : Ending) (w' : World) : Prop :=
  ∃ kv bv S cs, e = .returned (.tuple #[]) ∧ Tk own0 w0 P Q0 len base w' T q.1 q.2.1 q.2.2.1 kv bv S (l ++ q.2.2.2) cs
end Go.Proofs.Ytlfnglinalmpjaa
