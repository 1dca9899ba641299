/- Layer 8, the landed program: the finder as the laws see it; Feed, Locked, At, New. -/
import Derived.Test.YtlfnglinalmpjaaMkPTake
import Derived.Test.YtlfnglinalmpjaaMkPLink
namespace Go.Proofs.Ytlfnglinalmpjaa
open Go.RowKit
set_option linter.unusedVariables false

/-- The finder v, whose memory lies in blocks with own: its length, the numbers that it has taken, its state. -/
def PF (own : Nat → Prop) (w : World) (v : Value) (len : Nat) (zs : List Int) (t : Mk.Fs) : Prop :=
  ∃ P kv base, v = .pointer (some ⟨P, 0, none⟩) ∧ Cel w P 7 (pobj ⟨P, 0, none⟩ len zs.length t.locked t.misses kv .nilFunc) ∧ w.ownsRow base 3 1 kv (zs.length - t.place) ((zs.drop t.place).map (Value.int .i64)) ∧ Lk zs len zs.length t ∧ kv.ownBlock ≠ some P ∧ base ≤ w.heap.size ∧ ∀ k, own k ↔ (k = P ∨ kv.ownBlock = some k)
theorem PF.keep {own : Nat → Prop} {w w' : World} {v : Value} {len : Nat} {zs : List Int} {t : Mk.Fs} (h : PF own w v len zs t) (hs : w.heap.size ≤ w'.heap.size) (hk : ∀ k, k < w.heap.size → own k → w'.heap[k]? = w.heap[k]?) : PF own w' v len zs t := by
  obtain ⟨P, kv, base, e, hc, hr, hl, hP, hb, ho⟩ := h
  exact ⟨P, kv, base, e, hc.of_block (hk P hc.1 ((ho P).2 (.inl rfl))), own_keep hr (fun g hg hl => hk g hl ((ho g).2 (.inr hg))), hl, hP, Nat.le_trans hb hs, ho⟩
theorem PF.below {own : Nat → Prop} {w w' : World} {v : Value} {len : Nat} {zs : List Int} {t : Mk.Fs} (h : PF own w v len zs t) (hb : Below w.heap.size w w') : PF own w' v len zs t := h.keep hb.size (fun k hk _ => hb.block k hk)
theorem PF.lt {own : Nat → Prop} {w : World} {v : Value} {len : Nat} {zs : List Int} {t : Mk.Fs} (h : PF own w v len zs t) : ∀ k, own k → k < w.heap.size := by
  obtain ⟨P, kv, base, e, hc, hr, hl, hP, hb, ho⟩ := h
  intro k hk
  rcases (ho k).1 hk with q | q
  · rw [q]
    exact hc.1
  · exact (hr.lt k q).2
theorem PF.place {own : Nat → Prop} {w : World} {v : Value} {len : Nat} {zs : List Int} {t : Mk.Fs} (h : PF own w v len zs t) : t.place ≤ zs.length := by
  obtain ⟨_, _, _, _, _, _, hl, _⟩ := h
  exact hl.le
/-- What Feed leaves. -/
def PFed (own : Nat → Prop) (len : Nat) (zs ys : List Int) (s : Mk.Fs) (v : Value) (w : World) (e : Ending) (w' : World) : Prop :=
  ∃ own' o t oa oc, e = .returned (.tuple #[.slice oa o.length oc, .int .i64 0]) ∧ o.length ≤ oc ∧ Mk.Runs (fz (zs ++ ys)) len (zs ++ ys).length s o t ∧ PF own' w' v len (zs ++ ys) t ∧ (∀ k, own' k → own k ∨ w.heap.size ≤ k) ∧ BlkR (fun k => w.heap.size ≤ k ∧ ¬ own' k) w' oa (blks (zs ++ ys) len o) ∧ Buts own w w'
theorem seg_start (zs ys : List Int) (p : Nat) (h : p ≤ zs.length) : seg (zs ++ ys) p (zs.length - p) = zs.drop p := by
  unfold seg
  rw [List.drop_append_of_le_length h, List.take_append_of_le_length (by rw [List.length_drop]; omega), List.take_of_length_le (by rw [List.length_drop]; omega)]
theorem seg_end (vs : List Int) (p : Nat) : seg vs p (vs.length - p) = vs.drop p := by
  unfold seg
  rw [List.take_of_length_le (by rw [List.length_drop]; omega)]
/-- What holds between two rounds of Feed. -/
structure FdI (own0 : Nat → Prop) (w0 : World) (P Q0 len base : Nat) (vs : List Int) (s : Mk.Fs) (N : Nat) (wr : World) (t : Mk.Fs) (o : List (Nat × Nat)) (kv bv : Value) (S : Nat → Prop) (cs : List Value) : Prop where
  tk : Tk own0 w0 P Q0 len base wr N t.misses t.locked (seg vs t.place (N - t.place)) kv bv S (blks vs len o) cs
  lk : Lk vs len N t
  run : Mk.Runs (fz vs) len N s o t
  cnt : o.length ≤ N
theorem FdI.next {own0 : Nat → Prop} {w0 wr w' : World} {P Q0 len base N : Nat} {vs : List Int} {s t : Mk.Fs} {o : List (Nat × Nat)} {kv bv : Value} {S : Nat → Prop} {cs : List Value} {e : Ending} (h : FdI own0 w0 P Q0 len base vs s N wr t o kv bv S cs) (h1 : 1 ≤ len) (hN : N < vs.length)
    (q : TkP own0 w0 P Q0 len base (N + 1) (blks vs len o) (tkF len (N + 1) t.misses t.locked (seg vs t.place (N - t.place) ++ [fz vs N])) e w') : e = .returned (.tuple #[]) ∧ ∃ t' o' kv' bv' S' cs', FdI own0 w0 P Q0 len base vs s (N + 1) w' t' o' kv' bv' S' cs' := by
  obtain ⟨kv', bv', S', cs', rfl, hk⟩ := q
  obtain ⟨t', o', hr, hl, hf⟩ := h.lk.step h1 hN
  rw [hf] at hk
  have run := h.run.more (Nat.le_succ N) (fun _ _ => rfl) hr
  refine ⟨rfl, t', o ++ o', kv', bv', S', cs', ⟨?_, hl, run, ?_⟩⟩
  · have : blks vs len (o ++ o') = blks vs len o ++ blks vs len o' := by
      unfold blks
      rw [List.map_append]
    rw [this]
    exact hk
  · have := apart_len run.apart
    have := hl.le
    omega
theorem store_hand (w : World) (a : Addr) (Q0 : Nat) (x : Value) (c : w.cell? a = some x) (z : w.frozen? a = false) : (store a (hnd Q0)).run Try.prog w = .ok () (w.setCell a (hnd Q0)) := by
  rw [run_store Try.prog _ _ _ _ rfl, c, z]
  rfl
theorem store_nilf (w : World) (a : Addr) (x : Value) (c : w.cell? a = some x) (z : w.frozen? a = false) : (store a .nilFunc).run Try.prog w = .ok () (w.setCell a .nilFunc) := by
  rw [run_store Try.prog _ _ _ _ rfl, c, z]
  rfl
set_option maxRecDepth 100000 in
set_option maxHeartbeats 2000000 in
theorem pfeed_any (own : Nat → Prop) (w : World) (v : Value) (len : Nat) (zs : List Int) (t : Mk.Fs) (h : PF own w v len zs t) (h1 : 1 ≤ len) (h2 : len ≤ 20000) (fa : Option Addr) (m c : Nat) (ys : List Int) (hm : ys.length = m) (hnm : zs.length + m ≤ 1000000) (R : Ints w fa ys) (hs : softOk ys = true) (hd : 0 < m → ∀ g o, fa = some ⟨g, o, none⟩ → ¬ own g) :
    Calls Try.prog 22 #[v, .slice fa m c] w (PFed own len zs ys t v w) := by
  have hown := h.lt
  obtain ⟨P, kv, base, rfl, hc, hr, hlk, hkP, hbase, ho⟩ := h
  obtain ⟨n, hn⟩ : ∃ n, zs.length = n := ⟨_, rfl⟩
  obtain ⟨vs, hvs⟩ : ∃ vs, zs ++ ys = vs := ⟨_, rfl⟩
  obtain ⟨Q0, hQ0⟩ : ∃ Q0, w.heap.size = Q0 := ⟨_, rfl⟩
  have VL := Lib.hid (show vs.length = n + m by rw [← hvs, List.length_append, hn, hm])
  have AS := Lib.hid (fun w R => areSoft_any fa c ys m hm (by omega) w R)
  rw [hs] at AS
  have MD := Lib.hid (made_any P zs.length len t.misses t.locked kv .nilFunc w hc)
  have HY := Lib.hid (show ∀ i, i < m → ys.getD i 0 = fz vs (n + i) from fun i hi => by
    unfold fz
    rw [← hvs, List.getD_eq_getElem?_getD, List.getD_eq_getElem?_getD, List.getElem?_append_right (by omega), show n + i - zs.length = i by omega])
  obtain ⟨wA, hwA⟩ : ∃ wA, w.alloc (.cells #[.slice none 0 0] 40) = wA := ⟨_, rfl⟩
  have BA : Below w.heap.size w wA := hwA ▸ ba (Below.refl _ _) _
  have cA := hc.below BA
  have s6 := cA.cell (j := 6) (by omega)
  have z6 := cA.frozen (j := 6) (by omega)
  have SH := Lib.hid (store_hand wA ⟨P, 6, none⟩ Q0 _ s6 z6)
  obtain ⟨wB, hwB⟩ : ∃ wB, wA.setCell ⟨P, 6, none⟩ (hnd Q0) = wB := ⟨_, rfl⟩
  have QC : Cel wA Q0 1 (fun _ => .slice none 0 0) := by
    rw [← hwA, ← hQ0]
    exact Cel.new w _ _ (fun j hj => by
      obtain rfl : j = 0 := by omega
      rfl)
  have PQ : P ≠ Q0 := by
    have := hc.1
    omega
  have BB : But P wA wB := hwB ▸ (But.refl P wA).setCell 6 (hnd Q0)
  have I0 := Lib.hid (show FdI own w P Q0 len base vs t n wB t [] kv (.slice none 0 0) (fun _ => False) [] from by
    have lk := hlk.more (ys := ys)
    rw [hn, hvs] at lk
    have cb := (cA.set 6 (hnd Q0)).congr (pobj_set6 ⟨P, 0, none⟩ len zs.length t.locked t.misses kv .nilFunc (hnd Q0))
    rw [hwB, hn] at cb
    have sg := seg_start zs ys t.place hlk.le
    rw [hn, hvs] at sg
    have kvn : ∀ k, kv.ownBlock = some k → k ≠ P ∧ k < w.heap.size := fun k hk => ⟨fun e => hkP (by rw [hk, e]), (hr.lt k hk).2⟩
    refine ⟨⟨cb, ?_, QC.but BB (Ne.symm PQ), World.ownsRow_nil _ _ _ _, rfl, (ho P).2 (.inl rfl), hown, fun k hk => ⟨(kvn k hk).1, by have := (kvn k hk).2; omega, .inl ((ho k).2 (.inr hk))⟩, fun k hk => absurd hk (by simp [Value.ownBlock]), fun k hk => False.elim hk, by omega, ?_, hbase⟩, lk, .done lk.next, Nat.zero_le _⟩
    · rw [sg]
      have r2 := own_keep (own_below hr BA) (fun g hg hl => BB.rest g hl (kvn g hg).1)
      rw [List.length_drop]
      exact r2
    · exact (Buts.of_below BA).trans (Buts.of_but BB ((ho P).2 (.inl rfl))))
  have nm6 : n + m ≤ 1000000 := by omega
  have HB := Lib.hid hwB
  have HA := Lib.hid hwA
  have HQ := Lib.hid hQ0
  have HR := Lib.hid R
  have HD := Lib.hid hd
  have HM := Lib.hid hm
  have FIN := Lib.hid (show ∀ t' o kv' bv S cs w5 w6, FdI own w P Q0 len base vs t (n + m) w5 t' o kv' bv S cs → w6 = w5.setCell ⟨P, 6, none⟩ .nilFunc → PFed own len zs ys t (.pointer (some ⟨P, 0, none⟩)) w (.returned (.tuple #[bv, .int .i64 0])) w6 from fun t' o kv' bv S cs w5 w6 h hw6 => by
    have f1 : ∀ k, S k → w.heap.size ≤ k ∧ ¬ (k = P ∨ kv'.ownBlock = some k) := fun k hk => by
      obtain ⟨a1, a2, a3, a4, a5⟩ := h.tk.sn k hk
      have := h.tk.pl
      exact ⟨a2, fun e => e.elim (fun e => by omega) a3⟩
    have f2 : ∀ k, bv.ownBlock = some k → w.heap.size ≤ k ∧ ¬ (k = P ∨ kv'.ownBlock = some k) := fun k hk => by
      have a1 := (h.tk.bge k hk).1
      have := h.tk.pl
      exact ⟨a1, fun e => e.elim (fun e => by omega) (h.tk.bn k hk).2⟩
    obtain ⟨a, cap, rfl, hlc, hbr⟩ := blkS_own (P := fun k => w.heap.size ≤ k ∧ ¬ (k = P ∨ kv'.ownBlock = some k)) h.tk.out h.tk.blk f1 f2
    have bl : (blks vs len o).length = o.length := by
      unfold blks
      exact List.length_map _
    have pl := h.tk.pl
    have kp : ∀ k, k ≠ P → w6.heap[k]? = w5.heap[k]? := fun k hk => by
      rw [hw6]
      exact Below.heap_setCell _ _ _ _ hk
    have s6 : w6.heap.size = w5.heap.size := by rw [hw6, World.size_setCell]
    have nm : vs.length = n + m := VL.out
    refine ⟨fun k => k = P ∨ kv'.ownBlock = some k, o, t', a, cap, by rw [bl], by rw [← bl]; exact hlc, ?_, ⟨P, kv', base, rfl, ?_, ?_, ?_, fun e => (h.tk.kn P e).1 rfl, ?_, fun k => Iff.rfl⟩, fun k hk => ?_, ?_, ?_⟩
    · rw [hvs, nm]
      exact h.run
    · rw [hvs, nm, hw6]
      exact (h.tk.obj.set 6 .nilFunc).congr (pobj_set6 ⟨P, 0, none⟩ len (n + m) t'.locked t'.misses kv' (hnd Q0) .nilFunc)
    · rw [hvs]
      have r := own_keep (w' := w6) h.tk.row (fun g hg _ => kp g (h.tk.kn g hg).1)
      rw [← nm, seg_end, List.length_drop] at r
      exact r
    · rw [hvs, nm]
      exact h.lk
    · have := h.tk.but.size
      omega
    · rcases hk with rfl | hk
      · exact .inl h.tk.oP
      · exact (h.tk.kn k hk).2.2
    · rw [hvs]
      exact hbr.keep (by omega) (fun g hg q => kp g (fun e => q.2 (.inl e)))
    · refine h.tk.but.trans (Buts.of_but (c := P) ?_ h.tk.oP)
      rw [hw6]
      exact (But.refl P w5).setCell 6 _)
  clear hc hr hlk hkP hbase ho hn hvs hQ0 R hs hd hm hwA hwB BA cA QC BB hown
  go_enter Try.func22, Try.ntmps22
  go_wp2_with fail
  (with_reducible refine (MD.out).mono ?_)
  rintro e w1 ⟨rfl, rfl⟩
  go_wp2_with fail
  (with_reducible refine (AS.out _ HR.out).mono ?_)
  rintro e w1 ⟨rfl, rfl⟩
  have sh := SH.out
  have hb := HB.out
  unfold hnd at sh hb
  have HB2 := Lib.hid hb
  clear hb HB SH MD AS
  go_wp2_with (simp only [HA.out, HQ.out, HB2.out])
  clear sh HB2 HA s6 z6 wA
  go_loopw [21] (fun x wr => ∃ i : Nat, i ≤ m ∧ x = .int .i64 (i : Nat) ∧ ∃ t' o kv' bv S cs, FdI own w1 P Q0 len base vs t (n + i) wr t' o kv' bv S cs) (fun x _ => m - (intOf x).toNat)
  case atStart => exact ⟨0, Nat.zero_le _, rfl, _, _, _, _, _, _, I0.out⟩
  case round =>
    obtain ⟨i, hi, rfl, t', o, kv', bv, S, cs, hF⟩ := hrel
    have HF := Lib.hid hF
    clear I0 hF
    by_cases hlt : i < m
    · obtain ⟨g, off, rfl, lg, cg⟩ := HR.out.cell (by rw [HM.out]; omega)
      have cz := cg i (by rw [HM.out]; exact hlt)
      rw [HY.out i hlt] at cz
      have cz2 := (World.cell?_of_block (w := w1) (w' := wr) (a := ⟨g, off + i, none⟩) (HF.out.tk.but.block g lg (HD.out (by omega) g off rfl))).trans cz
      have t1 : decide ((i : Int) < (m : Int)) = true := by simp; omega
      have k9 : (i : Int) < (m : Int) := by omega
      obtain ⟨N, hN⟩ : ∃ N, n + i = N := ⟨_, rfl⟩
      rw [hN] at cz2 HF
      have NV : N < vs.length := by rw [VL.out]; omega
      have lk := HF.out.lk
      have lle := lk.le
      have sl : (seg vs t'.place (N - t'.place)).length = N - t'.place := seg_len _ _ _ (by omega)
      have s30 : N - t'.place ≤ 30000 := by
        by_cases b : t'.begun = true
        · have := lk.yes b
          omega
        · have := lk.no (by simpa using b)
          omega
      have cnt := HF.out.cnt
      have TA := Lib.hid (take_any own S w1 P Q0 len base N t'.misses t'.locked (seg vs t'.place (N - t'.place)) kv' bv (blks vs len o) cs h1 h2 (fz vs N) (by rw [sl]; exact s30) (by omega) lk.ok.1 (by unfold blks; rw [List.length_map]; omega) (by rw [sl]; omega) wr HF.out.tk)
      have NX := Lib.hid (fun e w' q => HF.out.next (e := e) (w' := w') h1 NV q)
      obtain ⟨x, hx⟩ : ∃ x, fz vs N = x := ⟨_, rfl⟩
      rw [hx] at cz2 TA NX
      have HNN := Lib.hid hN
      clear lk lle sl s30 cnt cz cg hN hx
      go_wp2_with fail
      (with_reducible refine (TA.out).mono ?_)
      intro e w2 q
      obtain ⟨rfl, hnx⟩ := NX.out e w2 q
      have Q := Lib.hid hnx
      clear q hnx NX TA
      go_wp2_with fail
      go_roundw
      case rel => exact ⟨i + 1, by omega, by go_num, by rw [← Nat.add_assoc, HNN.out]; exact Q.out⟩
      case measure => simp [intOf]; omega
    · have E := Lib.hid (show i = m by omega)
      have t1 : decide ((i : Int) < (m : Int)) = false := by simp; omega
      have c6 := HF.out.tk.obj.cell (j := 6) (by omega)
      have z6 := HF.out.tk.obj.frozen (j := 6) (by omega)
      simp only [pobj, hnd] at c6
      obtain ⟨ba0, bc0, rfl⟩ := own_is HF.out.tk.out
      have c0 := HF.out.tk.box.cell (j := 0) (by omega)
      have QQ : Q0 ≠ P := Ne.symm PQ
      have sn := store_nilf wr ⟨P, 6, none⟩ _ c6 z6
      have HH := Lib.hid (FIN.out t' o kv' _ S cs wr _ (by have := HF.out; rw [E.out] at this; exact this) rfl)
      clear FIN
      go_wp2_with fail
      go_ret2
      exact HH.out
set_option maxRecDepth 100000 in
theorem pfeed_no (own : Nat → Prop) (w : World) (v : Value) (len : Nat) (zs : List Int) (t : Mk.Fs) (h : PF own w v len zs t) (fa : Option Addr) (m c : Nat) (ys : List Int) (hm : ys.length = m) (hl : m ≤ 1000000) (R : Ints w fa ys) (hs : softOk ys = false) :
    Calls Try.prog 22 #[v, .slice fa m c] w fun e w' => e = .returned (.tuple #[.slice none 0 0, .int .i64 2]) ∧ Below w.heap.size w w' := by
  obtain ⟨P, kv, base, rfl, hc, _⟩ := h
  have AS := Lib.hid (areSoft_any fa c ys m hm hl w R)
  rw [hs] at AS
  have MD := Lib.hid (made_any P zs.length len t.misses t.locked kv .nilFunc w hc)
  clear R hc
  go_enter Try.func22, Try.ntmps22
  go_wp2_with fail
  (with_reducible refine (MD.out).mono ?_)
  rintro e w1 ⟨rfl, rfl⟩
  go_wp2_with fail
  (with_reducible refine (AS.out).mono ?_)
  rintro e w1 ⟨rfl, rfl⟩
  go_wp2_with fail
  go_ret2
  exact ⟨rfl, Below.refl _ _⟩
set_option maxRecDepth 100000 in
theorem plocked_any (own : Nat → Prop) (w : World) (v : Value) (len : Nat) (zs : List Int) (t : Mk.Fs) (h : PF own w v len zs t) :
    Calls Try.prog 26 #[v] w fun e w' => e = .returned (.bool t.locked) ∧ ∃ m, w' = w.drewN m := by
  obtain ⟨P, kv, base, rfl, hc, _⟩ := h
  have MD := Lib.hid (made_any P zs.length len t.misses t.locked kv .nilFunc w hc)
  have c1 := hc.cell (j := 1) (by omega)
  simp only [pobj] at c1
  obtain ⟨lk, hlk⟩ : ∃ b, t.locked = b := ⟨_, rfl⟩
  rw [hlk] at c1 ⊢
  clear hc hlk
  go_enter Try.func26, Try.ntmps26
  go_wp2_with fail
  (with_reducible refine (MD.out).mono ?_)
  rintro e w1 ⟨rfl, rfl⟩
  go_wp2_with fail
  go_ret
  exact ⟨rfl, 0, rfl⟩
set_option maxRecDepth 100000 in
theorem pat_any (own : Nat → Prop) (w : World) (v : Value) (len : Nat) (zs : List Int) (t : Mk.Fs) (h : PF own w v len zs t) (n : Nat) (hn : zs.length = n) (hl : n ≤ 1000000) :
    Calls Try.prog 27 #[v] w fun e w' => e = .returned (.int .i64 (n : Nat)) ∧ ∃ m, w' = w.drewN m := by
  obtain ⟨P, kv, base, rfl, hc, _⟩ := h
  rw [hn] at hc
  have MD := Lib.hid (made_any P n len t.misses t.locked kv .nilFunc w hc)
  have c0 := hc.cell (j := 0) (by omega)
  simp only [pobj] at c0
  clear hc hn
  go_enter Try.func27, Try.ntmps27
  go_wp2_with fail
  (with_reducible refine (MD.out).mono ?_)
  rintro e w1 ⟨rfl, rfl⟩
  go_wp2_with fail
  go_ret
  exact ⟨rfl, 0, rfl⟩
set_option maxRecDepth 100000 in
theorem pnew_no (n : Int) (h : n < 1 ∨ 20000 < n) (w : World) : Calls Try.prog 17 #[.int .i64 n] w fun e w' => e = .returned (.tuple #[.pointer none, .int .i64 2]) ∧ Below w.heap.size w w' := by
  by_cases h1 : n < 1
  · have d1 : decide (n < 1) = true := by simp; omega
    clear h
    go_enter Try.func17, Try.ntmps17
    go_wp2_with fail
    go_ret2
    exact ⟨rfl, Below.refl _ _⟩
  · have d1 : decide (n < 1) = false := by simp; omega
    have d2 : decide (20000 < n) = true := by simp; omega
    clear h
    go_enter Try.func17, Try.ntmps17
    go_wp2_with fail
    go_ret2
    exact ⟨rfl, Below.refl _ _⟩
set_option maxRecDepth 100000 in
theorem pnew_any (n : Nat) (h1 : 1 ≤ n) (h2 : n ≤ 20000) (w : World) : Calls Try.prog 17 #[.int .i64 (n : Nat)] w fun e w' => ∃ own P, e = .returned (.tuple #[.pointer (some P), .int .i64 0]) ∧ PF own w' (.pointer (some P)) n [] Mk.Fs.init ∧ (∀ k, own k → w.heap.size ≤ k) ∧ Below w.heap.size w w' := by
  have d1 : decide ((n : Int) < 1) = false := by simp; omega
  have d2 : decide (20000 < (n : Int)) = false := by simp; omega
  obtain ⟨w1, hw1⟩ : ∃ w1, w.alloc (.cells #[.int .i64 0, .bool false, .int .i64 0, .pointer none, .int .i64 (n : Nat), .slice none 0 0, .nilFunc] 63) = w1 := ⟨_, rfl⟩
  obtain ⟨b, hb⟩ : ∃ b, w.heap.size = b := ⟨_, rfl⟩
  have C1 : Cel w1 b 7 (fun j => if j = 3 then .pointer none else pobj ⟨b, 0, none⟩ n 0 false 0 (.slice none 0 0) .nilFunc j) := by
    rw [← hw1, ← hb]
    exact Cel.new w _ _ (fun j hj => by
      match j, hj with
      | 0, _ => rfl
      | 1, _ => rfl
      | 2, _ => rfl
      | 3, _ => rfl
      | 4, _ => rfl
      | 5, _ => rfl
      | 6, _ => rfl)
  have c3 : w1.cell? ⟨b, 3, none⟩ = some (.pointer none) := C1.cell (j := 3) (by omega)
  have z3 := C1.frozen (j := 3) (by omega)
  have C2 := Lib.hid ((C1.set 3 (.pointer (some ⟨b, 0, none⟩))).congr (g := pobj ⟨b, 0, none⟩ n 0 false 0 (.slice none 0 0) .nilFunc) (fun j hj => by
    match j, hj with
    | 0, _ => rfl
    | 1, _ => rfl
    | 2, _ => rfl
    | 3, _ => rfl
    | 4, _ => rfl
    | 5, _ => rfl
    | 6, _ => rfl))
  have B1 := Lib.hid (show Below w.heap.size w w1 from hw1 ▸ ba (Below.refl _ _) _)
  have B2 := Lib.hid (show Below w.heap.size w (w1.setCell ⟨b, 3, none⟩ (.pointer (some ⟨b, 0, none⟩))) from B1.out.setCell (p := ⟨b, 3, none⟩) (by show w.heap.size ≤ b; omega) _)
  have HW := Lib.hid hw1
  have HB := Lib.hid hb
  clear C1 hw1 hb
  go_enter Try.func17, Try.ntmps17
  go_wp2_with (simp only [HW.out, HB.out])
  go_ret2
  refine ⟨fun k => k = b ∨ (Value.slice none 0 0).ownBlock = some k, ⟨b, 0, none⟩, rfl, ⟨b, .slice none 0 0, 0, rfl, C2.out, World.ownsRow_nil _ _ _ _, lk_init [] n, by simp [Value.ownBlock], Nat.zero_le _, fun k => Iff.rfl⟩, fun k hk => ?_, by have := B2.out; rw [HB.out] at this; exact this⟩
  rcases hk with hk | hk
  · have := HB.out
    omega
  · simp [Value.ownBlock] at hk
end Go.Proofs.Ytlfnglinalmpjaa
