/- Layer 8: the contract of the reference's Feed over this program. -/
import Derived.Test.YtlfnglinalmpjaaMkFeedK
namespace Go.Proofs.Ytlfnglinalmpjaa
open Go.RowKit
set_option linter.unusedVariables false

theorem info_block : (Try.prog.info? 50).map (fun i => (i.zero, i.size, i.bytes)) = some (some (.agg #[.int .i64 0, .int .i64 0, .slice none 0 0]), 3, 40) := by kernel_rfl
/-- A part of a list. -/
def seg (l : List Int) (p k : Nat) : List Int := (l.drop p).take k
theorem seg_len (l : List Int) (p k : Nat) (h : p + k ≤ l.length) : (seg l p k).length = k := by
  unfold seg
  rw [List.length_take, List.length_drop]
  omega
theorem seg_get (l : List Int) (p k j : Nat) (hj : j < k) : (seg l p k)[j]? = l[p + j]? := by
  unfold seg
  rw [List.getElem?_take_of_lt hj, List.getElem?_drop]
/-- The blocks of a run, out of the stream. -/
def blks (l : List Int) (len : Nat) (o : List (Nat × Nat)) : List (Nat × Nat × List Int) := o.map fun x => (x.1, x.2, seg l (x.1 + 32) len)
/-- The steps that are left, out of memory. -/
def mFe (b N : Nat) (w : World) : Nat := 2 * (N + 1 - (intOf ((w.cell? ⟨b, 3, none⟩).getD undef)).toNat) + (match w.cell? ⟨b, 4, none⟩ with | some (.bool true) => 0 | _ => 1)
theorem mFe_eq {b N : Nat} {w : World} {len : Int} {lv : Value} {s : Mk.Fs} (F : FO w b (fobj len lv s)) : mFe b N w = Mk.left N s := by
  unfold mFe Mk.left
  rw [F.cell (j := 3) (by omega), F.cell (j := 4) (by omega)]
  obtain ⟨lk, pl, bg, wr, ms⟩ := s
  cases bg <;> simp [fobj, intOf]
theorem own_at0 {w : World} {base e size n : Nat} {v : Value} {xs : List Value} (h : w.ownsRow base e size v n xs) (hn : 0 < n) : ∃ g cap, v = .slice (some ⟨g, 0, none⟩) n cap ∧ n ≤ cap ∧ g < w.heap.size := by
  rcases h.2 with ⟨rfl, rfl⟩ | ⟨g, c, cur, rfl, _, hg, hc, _⟩
  · omega
  · exact ⟨_, _, rfl, hc, (Array.getElem?_eq_some_iff.1 hg).1⟩
theorem FO.of_block {w w' : World} {b : Nat} {f : Nat → Value} (h : FO w b f) (e : w'.heap[b]? = w.heap[b]?) : FO w' b f := by
  refine ⟨?_, fun j hj => ?_⟩
  · apply Nat.lt_of_not_le
    intro hh
    rw [Array.getElem?_eq_none hh, Array.getElem?_eq_getElem h.1] at e
    cases e
  · obtain ⟨h1, h2⟩ := h.2 j hj
    exact ⟨(World.cell?_of_block (w := w) (a := ⟨b, j, none⟩) e).trans h1, (World.frozen?_of_block (w := w) (a := ⟨b, j, none⟩) e).trans h2⟩
/-- What examine answers, and the state behind it. -/
def exOut (v : Nat → Int) (N : Nat) (s : Mk.Fs) : Bool × Mk.Fs := if s.begun = false ∧ s.place + 32 ≤ N then (true, Mk.exam v s) else (false, s)
theorem rexam_any (b n cap : Nat) (len : Int) (ao : Option Addr) (zs : List Int) (s : Mk.Fs) (hn : zs.length = n) (hl : n ≤ 1000000000) (hpl : s.place ≤ n) (hms : s.misses ≤ 3) (w : World) (F : FO w b (fobj len (.slice ao n cap) s)) (R : Ints w ao zs) :
    Calls Try.prog 40 #[.pointer (some ⟨b, 0, none⟩)] w fun e w' => e = .returned (.bool (exOut (fz zs) n s).1) ∧ FO w' b (fobj len (.slice ao n cap) (exOut (fz zs) n s).2) ∧ But b w w' := by
  unfold exOut
  by_cases h1 : s.begun = false
  · by_cases h2 : s.place + 32 ≤ n
    · rw [if_pos ⟨h1, h2⟩]
      by_cases h3 : Mk.wrongAt (fz zs) s.place 32 ≤ 2
      · exact rexam_found b n cap len ao zs s hn hl hpl hms w F R h1 h2 h3
      · by_cases h4 : s.locked = false
        · exact rexam_search b n cap len ao zs s hn hl hpl hms w F R h1 h2 h3 h4
        · by_cases h5 : s.misses + 1 = 3
          · exact rexam_lost b n cap len ao zs s hn hl hpl hms w F R h1 h2 h3 (by simpa using h4) h5
          · exact rexam_miss b n cap len ao zs s hn hl hpl hms w F R h1 h2 h3 (by simpa using h4) h5
    · rw [if_neg (fun h => h2 h.2)]
      exact rexam_few b n cap len ao zs s hn hl hpl hms w F R h1 (by omega)
  · rw [if_neg (fun h => h1 h.1)]
    exact rexam_begun b n cap len ao zs s hn hl hpl hms w F R (by simpa using h1)
theorem rfeed_no (b : Nat) (ao : Option Addr) (m c : Nat) (ys : List Int) (hm : ys.length = m) (hl : m ≤ 1000000) (w : World) (R : Ints w ao ys) (h : softOk ys = false) :
    Calls Try.prog 23 #[.pointer (some ⟨b, 0, none⟩), .slice ao m c] w fun e w' => e = .returned (.tuple #[.slice none 0 0, .int .i64 2]) ∧ w = w' := by
  have SO := Lib.hid (fun w R => soft_any ao c ys m hm (by omega) w R)
  rw [h] at SO
  go_enter Try.func23, Try.ntmps23
  go_wp2_with fail
  (with_reducible refine (SO.out _ R).mono ?_)
  rintro e w' ⟨rfl, rfl⟩
  go_wp2_with fail
  go_ret2
  exact ⟨rfl, rfl⟩
/-- A finder in memory: its cells and the numbers that it has taken. -/
structure RF (base : Nat) (w : World) (b : Nat) (len : Nat) (lv : Value) (zs : List Int) (s : Mk.Fs) : Prop where
  obj : FO w b (fobj len lv s)
  row : w.ownsRow base 3 1 lv zs.length (zs.map (Value.int .i64))
  ne : lv.ownBlock ≠ some b
/-- What Feed leaves. -/
def RFed (base b len : Nat) (lv : Value) (zs ys : List Int) (s : Mk.Fs) (w : World) (e : Ending) (w' : World) : Prop :=
  ∃ lv' o t ov cs n1, e = .returned (.tuple #[ov, .int .i64 0]) ∧ Mk.Runs (fz (zs ++ ys)) len (zs ++ ys).length s o t ∧ Mk.Ok t ∧ t.place ≤ (zs ++ ys).length ∧ RF base w' b len lv' (zs ++ ys) t ∧
    (∀ k, lv'.ownBlock = some k → (lv.ownBlock = some k ∨ w.heap.size ≤ k) ∧ k < n1) ∧ w.heap.size ≤ n1 ∧ w'.ownsRow n1 50 3 ov o.length cs ∧ BlkC w' n1 (blks (zs ++ ys) len o) cs ∧
    Buts (fun k => k = b ∨ lv.ownBlock = some k) w w'
/-- What holds between two rounds of Feed. -/
structure FeI (w3 : World) (b len base : Nat) (L : Value) (zz : List Int) (N : Nat) (s0 t : Mk.Fs) (o : List (Nat × Nat)) (ov : Value) (cs : List Value) (w : World) : Prop where
  obj : FO w b (fobj len L t)
  row : w.ownsRow base 3 1 L N (zz.map (Value.int .i64))
  ok : Mk.Ok t
  le : t.place ≤ N
  out : w.ownsRow w3.heap.size 50 3 ov o.length cs
  blk : BlkC w w3.heap.size (blks zz len o) cs
  but : Buts (fun k => k = b) w3 w
  run : ∀ o' u, Mk.Runs (fz zz) len N t o' u → Mk.Runs (fz zz) len N s0 (o ++ o') u
  cnt : o.length ≤ t.place
namespace FeI
variable {w3 w w' : World} {b len base N : Nat} {L ov : Value} {zz : List Int} {s0 t t' : Mk.Fs} {o : List (Nat × Nat)} {cs : List Value}
/-- Only the finder changes. -/
theorem step (h : FeI w3 b len base L zz N s0 t o ov cs w) (hb : b < w3.heap.size) (hL : L.ownBlock ≠ some b) (F : FO w' b (fobj len L t')) (B : But b w w') (ok : Mk.Ok t') (le : t'.place ≤ N) (up : t.place ≤ t'.place) (run : ∀ o' u, Mk.Runs (fz zz) len N t' o' u → Mk.Runs (fz zz) len N t o' u) : FeI w3 b len base L zz N s0 t' o ov cs w' :=
  ⟨F, own_keep h.row (fun g hg hl => B.rest g hl (fun e => hL (by rw [hg, e]))), ok, le, own_keep h.out (fun g hg hl => B.rest g hl (fun e => by have := own_block_ge h.out hg; omega)),
   h.blk.keep (fun g cur fr hg he => B.rest g (Array.getElem?_eq_some_iff.1 he).1 (by omega)), h.but.trans (Buts.of_but B rfl), fun o' u k => h.run o' u (run o' u k), Nat.le_trans h.cnt up⟩
/-- A block is complete. -/
theorem done {pl en wn ms : Nat} {lk : Bool} {w5 w6 : World} {sv ov2 : Value} (h : FeI w3 b len base L zz N s0 ⟨lk, pl, true, wn, ms⟩ o ov cs w) (hb : b < w3.heap.size) (hL : L.ownBlock ≠ some b) (hLk : ∀ k, L.ownBlock = some k → k < w3.heap.size)
    (B5 : Below w.heap.size w w5) (hsv : w5.ownsRow w.heap.size 3 1 sv (seg zz (pl + 32) len).length ((seg zz (pl + 32) len).map (Value.int .i64)))
    (hown6 : w6.ownsRow w3.heap.size 50 3 ov2 (o.length + 1) (cs ++ [.int .i64 (pl : Nat), .int .i64 (wn : Nat), sv])) (hgrow6 : w5.grownBy w6 ov.ownBlock)
    (nx : Mk.next (fz zz) len N ⟨lk, pl, true, wn, ms⟩ = some (⟨lk, en, false, wn, ms⟩, [(pl, wn)])) (hen : pl + 1 ≤ en) (heN : en ≤ N) :
    FeI w3 b len base L zz N s0 ⟨lk, en, false, wn, ms⟩ (o ++ [(pl, wn)]) ov2 (cs ++ [.int .i64 (pl : Nat), .int .i64 (wn : Nat), sv]) ((w6.setCell ⟨b, 4, none⟩ (.bool false)).setCell ⟨b, 3, none⟩ (.int .i64 (en : Nat))) := by
  have n1 : w3.heap.size ≤ w.heap.size := h.but.size
  have Ba := B5
  have obk : ∀ k, ov.ownBlock = some k → w3.heap.size ≤ k ∧ ∃ cur fr, w5.heap[k]? = some (.cells cur 50 fr) := fun k hk => by
    refine ⟨own_block_ge h.out hk, ?_⟩
    rcases h.out.2 with ⟨rfl, _⟩ | ⟨g, c, cur, rfl, _, hg, _⟩
    · cases hk
    · cases hk
      exact ⟨cur, _, (Ba.block g (Array.getElem?_eq_some_iff.1 hg).1).trans hg⟩
  have O6 := (h.obj.below Ba).of_block (hgrow6.block b (h.obj.below Ba).1 (fun e => by have := (obk b e.symm).1; omega))
  have two : ∀ c, c ≠ b → ((w6.setCell ⟨b, 4, none⟩ (.bool false)).setCell ⟨b, 3, none⟩ (.int .i64 (en : Nat))).heap[c]? = w6.heap[c]? := fun c hc => (Below.heap_setCell _ _ _ _ hc).trans (Below.heap_setCell _ _ _ _ hc)
  have R6 : w6.ownsRow base 3 1 L N (zz.map (Value.int .i64)) := own_keep (own_below h.row Ba) (fun g hg hl => hgrow6.block g hl (fun e => by have := (obk g e.symm).1; have := hLk g hg; omega))
  have C5 : BlkC w5 w3.heap.size (blks zz len o ++ [(pl, wn, seg zz (pl + 32) len)]) (cs ++ [.int .i64 (pl : Nat), .int .i64 (wn : Nat), sv]) :=
    BlkC.snoc (own_mono hsv n1) (h.blk.keep (fun g cur fr _ he => Ba.block g (Array.getElem?_eq_some_iff.1 he).1))
  have C6 : BlkC w6 w3.heap.size (blks zz len o ++ [(pl, wn, seg zz (pl + 32) len)]) (cs ++ [.int .i64 (pl : Nat), .int .i64 (wn : Nat), sv]) := C5.keep (fun g cur fr _ he => hgrow6.block g (Array.getElem?_eq_some_iff.1 he).1 (fun e => by
    obtain ⟨_, cur', fr', he'⟩ := obk g e.symm
    rw [he] at he'
    simp at he'))
  refine ⟨((O6.set 4 (.bool false)).set 3 (.int .i64 (en : Nat))).congr (fun j hj => ?_), own_keep R6 (fun g hg hl => two g (fun e => hL (by rw [hg, e]))), Mk.ok_next h.ok nx, heN, ?_, ?_, ?_, fun o' u k => ?_, ?_⟩
  · match j, hj with
    | 0, _ => rfl
    | 1, _ => rfl
    | 2, _ => rfl
    | 3, _ => rfl
    | 4, _ => rfl
    | 5, _ => rfl
    | 6, _ => rfl
  · rw [List.length_append]
    exact own_keep hown6 (fun g hg hl => two g (fun e => by have := own_block_ge hown6 hg; omega))
  · have : blks zz len (o ++ [(pl, wn)]) = blks zz len o ++ [(pl, wn, seg zz (pl + 32) len)] := by simp [blks]
    rw [this]
    exact C6.keep (fun g cur fr hg _ => two g (by omega))
  · refine h.but.then_new (T := fun k => k = b ∨ ov.ownBlock = some k) ?_ (fun c hc ht => ?_)
    · refine ((Buts.of_below Ba).trans (Buts.of_grown hgrow6 (fun k hk => .inr hk))).trans ⟨?_, ?_, ?_, ?_, fun k hk hs => two k (fun e => hs (.inl e))⟩
      · rfl
      · rfl
      · rfl
      · rw [World.size_setCell, World.size_setCell]
        exact Nat.le_refl _
    · rcases ht with ht | ht
      · exact ht
      · have := (obk c ht).1
        omega
  · rw [List.append_assoc]
    exact h.run _ u (.step nx k)
  · have := h.cnt
    simp only [List.length_append, List.length_singleton] at this ⊢
    omega
end FeI
theorem exam_le (v : Nat → Int) (s : Mk.Fs) : (Mk.exam v s).place ≤ s.place + 1 := by
  unfold Mk.exam
  split
  · exact Nat.le_succ _
  · split
    · exact Nat.le_refl _
    · split
      · exact Nat.le_refl _
      · exact Nat.le_succ _
set_option maxRecDepth 100000 in
set_option maxHeartbeats 4000000 in
theorem rfeed_any (base b len : Nat) (h1 : 1 ≤ len) (h2 : len ≤ 20000) (lv : Value) (zs : List Int) (n : Nat) (hn : zs.length = n) (s : Mk.Fs) (hok : Mk.Ok s) (hpl : s.place ≤ n) (ao : Option Addr) (m c : Nat) (ys : List Int) (hm : ys.length = m) (hnm : n + m ≤ 1000000) (w : World)
    (F : RF base w b len lv zs s) (hbase : base ≤ w.heap.size) (R : Ints w ao ys) (hs : softOk ys = true) :
    Calls Try.prog 23 #[.pointer (some ⟨b, 0, none⟩), .slice ao m c] w (RFed base b len lv zs ys s w) := by
  obtain ⟨F0, HL, hne⟩ := F
  rw [hn] at HL
  have SO := Lib.hid (fun w R => soft_any ao c ys m hm (by omega) w R)
  rw [hs] at SO
  have R0 := Lib.hid R
  have c1 := F0.cell (j := 1) (by omega)
  rw [show fobj len lv s 1 = lv from rfl] at c1
  have HL0 := Lib.hid HL
  have HF0 := Lib.hid F0
  have HNE := Lib.hid hne
  have HN := Lib.hid hn
  have HM := Lib.hid hm
  have HOK := Lib.hid hok
  have B0 := Lib.hid hbase
  obtain ⟨N, hN⟩ : ∃ N, n + m = N := ⟨_, rfl⟩
  have HNN := Lib.hid hN
  have HNL := Lib.hid (show (zs ++ ys).length = N by rw [List.length_append, hn, hm, hN])
  obtain ⟨i0, hi0, hz0, hz1, hz2⟩ := info_parts info_i64
  obtain ⟨la, lc, rfl⟩ := own_is HL
  clear R HL F0 hne hn hm hok hs hbase
  go_enter Try.func23, Try.ntmps23
  go_wp2_with fail
  (with_reducible refine (SO.out _ R0.out).mono ?_)
  rintro e w' ⟨rfl, rfl⟩
  clear SO
  have IC := Lib.hid (ints_cells R0.out)
  have IN := Lib.hid (show ao = none → m = 0 from fun q => by
    have h := R0.out
    rw [q] at h
    rcases h with h | ⟨_, _, h, _⟩
    · rw [← HM.out, h]
      rfl
    · cases h)
  go_wp2_with (at_builtin; refine wpList_append_own2_any rfl _ _ 29 rfl base 3 i0 (.int .i64 0) 1 8 Try.underlying29 hi0 hz0 hz1 hz2 rfl (by decide) _ _ _ rfl HL0.out ao m c (ys.map (Value.int .i64)) rfl (by rw [List.length_map, HM.out, Nat.mul_one]) IN.out IC.out (fun u hu => by obtain ⟨q, _, rfl⟩ := List.mem_map.1 hu; simp [Value.oneCell']) (by unfold maxLen; omega) (by omega) B0.out ?_; intro lv2 w2 hown2 hgrow hblk; rw [← List.map_append, HNN.out] at hown2; obtain ⟨la2, lc2, rfl⟩ := own_is hown2; have F2 := HF0.out.of_block (hgrow.block b HF0.out.1 (fun q => HNE.out q.symm)); have m1 := F2.cell (j := 1) (by omega); have z1 := F2.frozen (j := 1) (by omega))
  have ne2 : (Value.slice la2 N lc2).ownBlock ≠ some b := fun q => by
    rcases hblk with g | g
    · exact HNE.out (g.symm.trans q)
    · have h3 : some b = some w.heap.size := q.symm.trans g
      have := HF0.out.1
      simp at h3
      omega
  have F3 := (F2.set 1 (.slice la2 N lc2)).congr (g := fobj len (.slice la2 N lc2) s) (fun j hj => by
    match j, hj with
    | 0, _ => rfl
    | 1, _ => rfl
    | 2, _ => rfl
    | 3, _ => rfl
    | 4, _ => rfl
    | 5, _ => rfl
    | 6, _ => rfl)
  have L3 : (w2.setCell ⟨b, 1, none⟩ (.slice la2 N lc2)).ownsRow base 3 1 (.slice la2 N lc2) N ((zs ++ ys).map (Value.int .i64)) := own_keep hown2 (fun g hg _ => Below.heap_setCell _ _ _ _ (fun e => ne2 (by rw [hg]; exact congrArg some e)))
  have U3 : Buts (fun k => k = b ∨ (Value.slice la n lc).ownBlock = some k) w (w2.setCell ⟨b, 1, none⟩ (.slice la2 N lc2)) := (Buts.of_grown hgrow (fun k hk => .inr hk)).trans (Buts.of_but (But.setCell (But.refl b w2) 1 _) (.inl rfl))
  have K3 : ∀ k, (Value.slice la2 N lc2).ownBlock = some k → ((Value.slice la n lc).ownBlock = some k ∨ w.heap.size ≤ k) ∧ k < w2.heap.size := fun k hk => ⟨by
    rcases hblk with g | g
    · exact .inl (g.symm.trans hk)
    · right
      have h3 : some k = some w.heap.size := hk.symm.trans g
      simp at h3
      omega, (hown2.lt k hk).2⟩
  have s3 : (w2.setCell ⟨b, 1, none⟩ (.slice la2 N lc2)).heap.size = w2.heap.size := World.size_setCell ..
  obtain ⟨w3, hw3⟩ : ∃ w3, w2.setCell ⟨b, 1, none⟩ (.slice la2 N lc2) = w3 := ⟨_, rfl⟩
  rw [hw3] at F3 L3 U3 s3 ⊢
  rw [← s3] at K3
  have HF3 := Lib.hid F3
  have HL3 := Lib.hid L3
  have HU3 := Lib.hid U3
  have HK3 := Lib.hid K3
  have HNE2 := Lib.hid ne2
  clear hown2 hgrow hblk m1 z1 F2 F3 L3 U3 K3 s3 hw3 ne2 c1 hi0 hz0 hz1 hz2 R0 IC HF0 HL0 B0 w2
  obtain ⟨zz, hzz⟩ : ∃ zz, zs ++ ys = zz := ⟨_, rfl⟩
  rw [hzz] at HL3
  have HZZ := Lib.hid hzz
  rw [hzz] at HNL
  have lb3 := Lib.hid HF3.out.1
  have LK3 := Lib.hid (fun k hk => (HK3.out k hk).2)
  have N1 : N ≤ 1000000 := by omega
  have I0 := Lib.hid (show FeI w3 b len base (.slice la2 N lc2) zz N s s [] (.slice none 0 0) [] w3 from ⟨HF3.out, HL3.out, HOK.out, by omega, World.ownsRow_nil _ _ _ _, rfl, Buts.refl _ _, fun o' u k => k, Nat.zero_le _⟩)
  have FIN := Lib.hid (fun (t : Mk.Fs) o ov cs w' (h : FeI w3 b len base (.slice la2 N lc2) zz N s t o ov cs w') (hn : Mk.next (fz zz) len N t = none) => show RFed base b len (.slice la n lc) zs ys s w (.returned (.tuple #[ov, .int .i64 0])) w' from by
    refine ⟨.slice la2 N lc2, o, t, ov, cs, w3.heap.size, rfl, ?_, h.ok, ?_, ⟨h.obj, ?_, HNE2.out⟩, HK3.out, HU3.out.size, h.out, ?_, HU3.out.trans (h.but.mono (fun k e => .inl e))⟩
    · have := h.run [] t (.done hn)
      rw [List.append_nil] at this
      rw [HZZ.out, HNL.out]
      exact this
    · rw [HZZ.out, HNL.out]
      exact h.le
    · rw [HZZ.out, HNL.out]
      exact h.row
    · rw [HZZ.out]
      exact h.blk)
  clear hzz HF3 HL3 HU3 HK3 HNE HN HM HOK hpl hnm hN HNN
  go_wp2_with fail
  go_loopw [6] (fun ov wr => ∃ t o cs, FeI w3 b len base (.slice la2 N lc2) zz N s t o ov cs wr) (fun _ wr => mFe b N wr)
  case atStart => exact ⟨s, [], [], I0.out⟩
  case round =>
    obtain ⟨t, o, cs, hI⟩ := hrel
    have HI := Lib.hid hI
    have MF := mFe_eq (N := N) hI.obj
    clear hI I0
    obtain ⟨lk, pl, bg, wn, ms⟩ := t
    have le := HI.out.le
    simp only at le
    obtain ⟨p32, hp32⟩ : ∃ x, pl + 32 = x := ⟨_, rfl⟩
    obtain ⟨en, hen⟩ : ∃ x, p32 + len = x := ⟨_, rfl⟩
    have e1 : (pl : Int) + 32 = (p32 : Int) := by omega
    have e2 : (p32 : Int) + (len : Int) = (en : Int) := by omega
    have P32 := Lib.hid hp32
    have EN := Lib.hid hen
    have p32b : p32 ≤ 2000000 := by omega
    have enb : en ≤ 3000000 := by omega
    have c0 := HI.out.obj.cell (j := 0) (by omega)
    have c1 := HI.out.obj.cell (j := 1) (by omega)
    have c3 := HI.out.obj.cell (j := 3) (by omega)
    have c4 := HI.out.obj.cell (j := 4) (by omega)
    simp only [fobj] at c0 c1 c3 c4
    have EX := Lib.hid (fun w' (q : Below wr.heap.size wr w') => rexam_any b N lc2 len la2 zz ⟨lk, pl, bg, wn, ms⟩ HNL.out (by omega) le HI.out.ok.1 w' (HI.out.obj.below q) ((ints_of_own HI.out.row).1.below q))
    have BW := Lib.hid (fun nq => below_drewN (Below.refl wr.heap.size wr) nq)
    clear hp32 hen
    cases bg with
    | true =>
      have X := Lib.hid (show exOut (fz zz) N ⟨lk, pl, true, wn, ms⟩ = (false, ⟨lk, pl, true, wn, ms⟩) from if_neg (fun h => by cases h.1))
      by_cases hle : en ≤ N
      · have t1 : decide ((en : Int) ≤ (N : Int)) = true := by simp; omega
        have NX := Lib.hid (show Mk.next (fz zz) len N ⟨lk, pl, true, wn, ms⟩ = some (⟨lk, en, false, wn, ms⟩, [(pl, wn)]) from by
          unfold Mk.next
          rw [if_pos rfl, if_pos (show pl + 32 + len ≤ N by have := P32.out; have := EN.out; omega)]
          rw [show pl + 32 + len = en by have := P32.out; have := EN.out; omega])
        clear EX X
        obtain ⟨g, cap, hv, hcap, hg⟩ := own_at0 HI.out.row (show 0 < N by omega)
        simp only [Value.slice.injEq, true_and] at hv
        obtain ⟨rfl, rfl⟩ := hv
        have SL := Lib.hid (seg_len zz (pl + 32) len (by rw [HNL.out]; have := P32.out; have := EN.out; omega))
        have NW := Lib.hid (show ∀ j u, ((seg zz (pl + 32) len).map (Value.int .i64))[j]? = some u → wr.cell? ⟨g, p32 + j, none⟩ = some u from fun j u hu => by
          have hj : j < len := by
            have := (List.getElem?_eq_some_iff.1 hu).1
            rw [List.length_map, SL.out] at this
            exact this
          rw [List.getElem?_map, seg_get _ _ _ _ hj] at hu
          have := HI.out.row.cells (g := g) rfl (p32 + j) u (by rw [List.getElem?_map, ← P32.out]; exact hu)
          rw [add_off, Nat.zero_add] at this
          exact this)
        have c5 := HI.out.obj.cell (j := 5) (by omega)
        simp only [fobj] at c5
        have cn := HI.out.cnt
        simp only at cn
        obtain ⟨j0, hj0, hy0, hy1, hy2⟩ := info_parts info_block
        go_upto_region 7 with (go_quiet (fail))
        refine feRegion b pl wn g N lc2 p32 en len wr.heap.size u6 ((seg zz (pl + 32) len).map (Value.int .i64)) P32.out.symm EN.out.symm hle hcap (by omega) (by omega) (by omega) (by rw [List.length_map]; exact SL.out) (BW.out nq).size (Nat.lt_of_lt_of_le HI.out.obj.1 (BW.out nq).size) (Nat.lt_of_lt_of_le hg (BW.out nq).size)
          (((BW.out nq).cell (p := ⟨b, 1, none⟩) HI.out.obj.1).trans c1) (((BW.out nq).cell (p := ⟨b, 3, none⟩) HI.out.obj.1).trans c3) (((BW.out nq).cell (p := ⟨b, 5, none⟩) HI.out.obj.1).trans c5) (fun j u hu => ((BW.out nq).cell (p := ⟨g, p32 + j, none⟩) hg).trans (NW.out j u hu)) (by kernel_rfl) rfl rfl rfl rfl rfl rfl rfl rfl rfl rfl rfl rfl rfl rfl rfl rfl rfl rfl rfl rfl rfl rfl rfl rfl rfl rfl rfl rfl ?_
        rintro v9 v21 v22 v23 w5 D5 F9 F21 F22 ⟨Bb, sa5, sc5, rfl, lB, cB, ow⟩
        simp only [Act.put, List.setIfInBounds_toArray, List.set_cons_succ, List.set_cons_zero, List.drop_succ_cons, List.drop_zero]
        have B5 := Lib.hid (bt (BW.out nq) D5)
        have FV := Lib.hid (show w5.ownsRow wr.heap.size 3 1 (.slice sa5 len sc5) (seg zz (pl + 32) len).length ((seg zz (pl + 32) len).map (Value.int .i64)) by rw [SL.out]; exact ow)
        have OB := Lib.hid (own_below HI.out.out B5.out)
        have O5 := Lib.hid (HI.out.obj.below B5.out)
        have S5 := Lib.hid (show w3.heap.size ≤ w5.heap.size from Nat.le_trans HI.out.but.size B5.out.size)
        have CB := Lib.hid cB
        clear D5 F21 F9 F22 c0 c1 c3 c4 c5 NW ow cB
        go_wp2_with (at_builtin; refine wpList_append_own2 rfl _ _ 40 rfl w3.heap.size 50 j0 (.agg #[.int .i64 0, .int .i64 0, .slice none 0 0]) 3 40 Try.underlying40 hj0 hy0 hy1 hy2 rfl (by decide) _ _ _ rfl OB.out ⟨Bb, 0, none⟩ 1 1 [.int .i64 (pl : Nat), .int .i64 (wn : Nat), .slice sa5 len sc5] rfl rfl (fun j u hu => by rw [add_off, Nat.zero_add]; exact CB.out j u hu) (fun u hu => by simp at hu; rcases hu with rfl | rfl | rfl <;> rfl) (by unfold maxLen; omega) (by omega) S5.out ?_; intro ov2 w6 hown6 hgrow6 _; have O6 := O5.out.of_block (hgrow6.block b O5.out.1 (fun e => by have := own_block_ge OB.out e.symm; have := lb3.out; omega)); have m4 := O6.cell (j := 4) (by omega); have z4 := O6.frozen (j := 4) (by omega); have m3 := (O6.set 4 (.bool false)).cell (j := 3) (by omega); have z3 := (O6.set 4 (.bool false)).frozen (j := 3) (by omega); have DN := Lib.hid (HI.out.done lb3.out HNE2.out LK3.out B5.out FV.out hown6 hgrow6 NX.out (by have := P32.out; have := EN.out; omega) hle); clear hown6 hgrow6 O6)
        refine ⟨⟨_, _, _, DN.out⟩, ?_⟩
        rw [mFe_eq DN.out.obj, MF]
        exact Mk.next_left NX.out
      · have t1 : decide ((en : Int) ≤ (N : Int)) = false := by simp; omega
        have NX := Lib.hid (show Mk.next (fz zz) len N ⟨lk, pl, true, wn, ms⟩ = none from by
          unfold Mk.next
          rw [if_pos rfl, if_neg (show ¬ pl + 32 + len ≤ N by have := P32.out; have := EN.out; omega)])
        rw [X.out] at EX
        go_wp2_with (go_quiet (fail))
        (with_reducible refine (EX.out _ (BW.out _)).mono ?_)
        rintro e w5 ⟨rfl, f5, b5⟩
        have ST := Lib.hid (HI.out.step lb3.out HNE2.out f5 ((But.of_below (BW.out _) (Nat.le_of_lt HI.out.obj.1)).trans b5) HI.out.ok le (Nat.le_refl _) (fun o' u k => k))
        clear f5 b5 EX
        go_wp2_with fail
        go_ret2
        exact FIN.out _ _ _ _ _ ST.out NX.out
    | false =>
      by_cases h32 : p32 ≤ N
      · have X := Lib.hid (show exOut (fz zz) N ⟨lk, pl, false, wn, ms⟩ = (true, Mk.exam (fz zz) ⟨lk, pl, false, wn, ms⟩) from if_pos ⟨rfl, by have := P32.out; simp only; omega⟩)
        have NX := Lib.hid (show Mk.next (fz zz) len N ⟨lk, pl, false, wn, ms⟩ = some (Mk.exam (fz zz) ⟨lk, pl, false, wn, ms⟩, []) from by
          unfold Mk.next
          rw [if_neg (by simp), if_pos (show pl + 32 ≤ N by have := P32.out; omega)])
        rw [X.out] at EX
        go_wp2_with (go_quiet (fail))
        (with_reducible refine (EX.out _ (BW.out _)).mono ?_)
        rintro e w5 ⟨rfl, f5, b5⟩
        have xl := exam_le (fz zz) ⟨lk, pl, false, wn, ms⟩
        have xp := Mk.exam_place (fz zz) ⟨lk, pl, false, wn, ms⟩
        simp only at xl xp
        have ST := Lib.hid (HI.out.step lb3.out HNE2.out f5 ((But.of_below (BW.out _) (Nat.le_of_lt HI.out.obj.1)).trans b5) (Mk.ok_next HI.out.ok NX.out) (by have := P32.out; omega) xp (fun o' u k => by
          have := Mk.Runs.step NX.out k
          rw [List.nil_append] at this
          exact this))
        clear f5 b5 EX xl xp
        go_wp2_with fail
        refine ⟨⟨_, _, _, ST.out⟩, ?_⟩
        rw [mFe_eq ST.out.obj, MF]
        exact Mk.next_left NX.out
      · have X := Lib.hid (show exOut (fz zz) N ⟨lk, pl, false, wn, ms⟩ = (false, ⟨lk, pl, false, wn, ms⟩) from if_neg (fun h => by have := P32.out; have := h.2; simp only at this; omega))
        have NX := Lib.hid (show Mk.next (fz zz) len N ⟨lk, pl, false, wn, ms⟩ = none from by
          unfold Mk.next
          rw [if_neg (by simp), if_neg (show ¬ pl + 32 ≤ N by have := P32.out; omega)])
        rw [X.out] at EX
        go_wp2_with (go_quiet (fail))
        (with_reducible refine (EX.out _ (BW.out _)).mono ?_)
        rintro e w5 ⟨rfl, f5, b5⟩
        have ST := Lib.hid (HI.out.step lb3.out HNE2.out f5 ((But.of_below (BW.out _) (Nat.le_of_lt HI.out.obj.1)).trans b5) HI.out.ok le (Nat.le_refl _) (fun o' u k => k))
        clear f5 b5 EX
        go_wp2_with fail
        go_ret2
        exact FIN.out _ _ _ _ _ ST.out NX.out
end Go.Proofs.Ytlfnglinalmpjaa
