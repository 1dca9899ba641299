/- MarkerPortions: what holds between two portions, and what a portion adds. -/
import Derived.Test.YtlfnglinalmpjaaMkFinds
import Derived.Test.YtlfnglinalmpjaaMkList
namespace Go.Proofs.Ytlfnglinalmpjaa
open Go.RowKit
set_option linter.unusedVariables false

theorem apart_mem {len : Nat} : ∀ {l : List (Nat × Nat)} {p q : Nat}, Mk.Apart len p l q → ∀ x ∈ l, x.1 + 32 + len ≤ q
  | [], p, q, h, x, hx => by simp at hx
  | b :: l, p, q, h, x, hx => by
    rcases List.mem_cons.1 hx with e | e
    · have := apart_len h.2
      rw [e]
      omega
    · exact apart_mem h.2 x e
theorem blks_more {zs ys : List Int} {len : Nat} {o : List (Nat × Nat)} (h : ∀ x ∈ o, x.1 + 32 + len ≤ zs.length) : blks (zs ++ ys) len o = blks zs len o := by
  unfold blks
  refine List.map_congr_left (fun x hx => ?_)
  have := h x hx
  have e : seg (zs ++ ys) (x.1 + 32) len = seg zs (x.1 + 32) len := by
    unfold seg
    rw [List.drop_append_of_le_length (by omega), List.take_append_of_le_length (by rw [List.length_drop]; omega)]
  rw [e]
theorem blks_app (l : List Int) (len : Nat) (o o' : List (Nat × Nat)) : blks l len (o ++ o') = blks l len o ++ blks l len o' := by
  unfold blks
  rw [List.map_append]
theorem BlkI.lt {Q : Nat → Prop} {w : World} {l : List (Nat × Nat × List Int)} {cs : List Value} (h : BlkI Q w l cs) : BlkI (fun g => Q g ∧ g < w.heap.size) w l cs := ⟨h.1, fun i x hx => by
  obtain ⟨c1, c2, sa, c, c3, hi, hg⟩ := h.2 i x hx
  refine ⟨c1, c2, sa, c, c3, hi, fun g o e hz => ⟨hg g o e hz, ?_⟩⟩
  rcases hi with q | ⟨b, o', e', hb, _⟩
  · exact absurd q hz
  · rw [e] at e'
    simp only [Option.some.injEq, Addr.mk.injEq] at e'
    obtain ⟨rfl, _, _⟩ := e'
    exact hb⟩
theorem fz_more {zs ys : List Int} : ∀ i, i < zs.length → fz zs i = fz (zs ++ ys) i := by
  intro i hi
  unfold fz
  simp only [List.getD_eq_getElem?_getD]
  rw [List.getElem?_append_left hi]
/-- What holds between two portions: the finder g has taken p of the values; b holds what it has found. -/
structure PoI (w3 wr : World) (len : Nat) (P : Addr) (own0 own : Nat → Prop) (all : List Int) (p : Nat) (t : Mk.Fs) (o : List (Nat × Nat)) (bv : Value) (cs : List Value) : Prop where
  pf : PF own wr (.pointer (some P)) len (all.take p) t
  hp : p ≤ all.length
  run : Mk.Runs (fz (all.take p)) len p Mk.Fs.init o t
  le : t.place ≤ p
  own_o : ∀ k, own k → own0 k ∨ w3.heap.size ≤ k
  buts : Buts own0 w3 wr
  row : wr.ownsRow w3.heap.size 50 3 bv o.length cs
  cells : BlkI (fun k => w3.heap.size ≤ k ∧ ¬ own k ∧ bv.ownBlock ≠ some k) wr (blks (all.take p) len o) cs
  bo : ∀ k, bv.ownBlock = some k → ¬ own k
namespace PoI
variable {w3 wr w5 w6 w7 : World} {len p n : Nat} {P : Addr} {own0 own own5 : Nat → Prop} {all ys : List Int} {t t5 : Mk.Fs} {o o5 : List (Nat × Nat)} {bv bv7 : Value} {cs cs2 : List Value}
/-- The list of one's own behind the finder's Feed. -/
theorem row6 (h : PoI w3 wr len P own0 own all p t o bv cs) (bu5 : Buts own wr w5) (b6 : Below w5.heap.size w5 w6) : w6.ownsRow w3.heap.size 50 3 bv o.length cs :=
  own_keep h.row (fun g hg hl => (b6.block g (Nat.lt_of_lt_of_le hl bu5.size)).trans (bu5.block g hl (h.bo g hg)))
theorem next (h : PoI w3 wr len P own0 own all p t o bv cs) (hn : p + n ≤ all.length) (hys : (all.drop p).take n = ys)
    (pf5 : PF own5 w5 (.pointer (some P)) len (all.take p ++ ys) t5) (runs5 : Mk.Runs (fz (all.take p ++ ys)) len (all.take p ++ ys).length t o5 t5) (le5 : t5.place ≤ (all.take p ++ ys).length) (on5 : ∀ k, own5 k → own k ∨ wr.heap.size ≤ k)
    (bu5 : Buts own wr w5) (b6 : Below w5.heap.size w5 w6) (c6 : BlkI (fun k => wr.heap.size ≤ k ∧ ¬ own5 k) w6 (blks (all.take p ++ ys) len o5) cs2)
    (row7 : w7.ownsRow w3.heap.size 50 3 bv7 (o.length + o5.length) (cs ++ cs2)) (gr : w6.grownBy w7 bv.ownBlock) (hb : bv7.ownBlock = bv.ownBlock ∨ bv7.ownBlock = some w6.heap.size) :
    PoI w3 w7 len P own0 own5 all (p + n) t5 (o ++ o5) bv7 (cs ++ cs2) := by
  have tk : all.take p ++ ys = all.take (p + n) := by rw [← hys, List.take_add]
  have tl : (all.take (p + n)).length = p + n := by rw [List.length_take]; omega
  have tp : (all.take p).length = p := by rw [List.length_take]; have := h.hp; omega
  have s3 := h.buts.size
  have s5 := bu5.size
  have s6 := b6.size
  have plt := h.pf.lt
  have p5 := pf5.lt
  have bl : ∀ k, bv.ownBlock = some k → k < wr.heap.size := fun k hk => (h.row.lt k hk).2
  have bn5 : ∀ k, bv.ownBlock = some k → ¬ own5 k := fun k hk ho => by
    rcases on5 k ho with q | q
    · exact h.bo k hk q
    · have := bl k hk
      omega
  have rm : Mk.Runs (fz (all.take (p + n))) len (p + n) Mk.Fs.init (o ++ o5) t5 := by
    rw [tk, tl] at runs5
    refine Mk.Runs.more h.run (by omega) (fun i hi => ?_) runs5
    rw [← tk]
    exact fz_more i (by rw [tp]; exact hi)
  have em : ∀ x ∈ o, x.1 + 32 + len ≤ (all.take p).length := fun x hx => by
    have := apart_mem h.run.apart x hx
    have := h.le
    omega
  have pf7 : PF own5 w7 (.pointer (some P)) len (all.take (p + n)) t5 := by
    rw [← tk]
    exact (pf5.below b6).keep gr.size (fun k hk ho => gr.block k hk (fun e => bn5 k e.symm ho))
  have u7 : Buts own0 w3 w7 := by
    have u5 : Buts own0 w3 w5 := h.buts.then_new bu5 (fun c hc ho => by
      rcases h.own_o c ho with q | q
      · exact q
      · omega)
    have u6 : Buts own0 w3 w6 := u5.trans (Buts.of_below b6)
    exact u6.then_new (T := fun k => bv.ownBlock = some k) (Buts.of_grown gr (fun k hk => hk)) (fun c hc hk => by
      have := own_block_ge h.row hk
      omega)
  have old : BlkI (fun k => w3.heap.size ≤ k ∧ ¬ own5 k ∧ bv7.ownBlock ≠ some k) w7 (blks (all.take (p + n)) len o) cs := by
    rw [← tk, blks_more em]
    refine (h.cells.lt.keep (w' := w7) (Nat.le_trans s5 (Nat.le_trans s6 gr.size)) (fun g hg hq => ?_)).mono (fun g hq => ⟨hq.1.1, fun ho => ?_, fun e => ?_⟩)
    · exact (gr.block g (by omega) (fun e => hq.1.2.2 e.symm)).trans ((b6.block g (by omega)).trans (bu5.block g hg hq.1.2.1))
    · rcases on5 g ho with q | q
      · exact hq.1.2.1 q
      · have := hq.2
        omega
    · rcases hb with e' | e'
      · exact hq.1.2.2 (e'.symm.trans e)
      · rw [e] at e'
        simp only [Option.some.injEq] at e'
        have := hq.2
        omega
  have new : BlkI (fun k => w3.heap.size ≤ k ∧ ¬ own5 k ∧ bv7.ownBlock ≠ some k) w7 (blks (all.take (p + n)) len o5) cs2 := by
    rw [← tk]
    refine (c6.lt.keep (w' := w7) gr.size (fun g hg hq => ?_)).mono (fun g hq => ⟨by have := hq.1.1; omega, hq.1.2, fun e => ?_⟩)
    · refine gr.block g hg (fun e => ?_)
      have := bl g e.symm
      have := hq.1.1
      omega
    · rcases hb with e' | e'
      · have := bl g (e'.symm.trans e)
        have := hq.1.1
        omega
      · rw [e] at e'
        simp only [Option.some.injEq] at e'
        have := hq.2
        omega
  refine ⟨pf7, hn, rm, by rw [tk, tl] at le5; exact le5, fun k hk => ?_, u7, by rw [List.length_append]; exact row7, by rw [blks_app]; exact old.app new, fun k hk ho => ?_⟩
  · rcases on5 k hk with q | q
    · exact h.own_o k q
    · exact .inr (by omega)
  · rcases hb with e | e
    · exact bn5 k (e.symm.trans hk) ho
    · rw [e] at hk
      simp only [Option.some.injEq] at hk
      have := p5 k ho
      omega
end PoI
end Go.Proofs.Ytlfnglinalmpjaa
