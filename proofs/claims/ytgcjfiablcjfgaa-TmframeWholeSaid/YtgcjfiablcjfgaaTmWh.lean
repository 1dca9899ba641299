/- TmWh -/
import Derived.Test.YtgcjfiablcjfgaaTmWhole
/- Layer 10: TmframeWhole's loops: what holds of the packets, the fields and the memory. -/
namespace Go.Proofs.Ytgcjfiablcjfgaa
open Go.RowKit
set_option linter.unusedVariables false
set_option maxRecDepth 100000

/-- i packets were added; T has begun, out was returned, Fs was said of the fields. -/
structure Wh (n i : Nat) (A : List (List UInt8)) (s : Tm.Fl) (T : List (Bool × List UInt8)) (out : List UInt8) (Fs : List Nat) : Prop where of ::
  run : Tm.Run A s T out
  fs : Tm.FS n T Fs
  ol : out.length = Fs.length * n
  pk : ∀ x ∈ T, Tm.Pkd x
  ends : Tm.Ends s T
  apk : ∀ p ∈ A, ∃ m, 7 ≤ m ∧ m ≤ 306 ∧ p = mk m
  al : A.length = i
  wt : Tm.wait s.q ≤ 306 * i
section
variable {n i : Nat} {A : List (List UInt8)} {s : Tm.Fl} {T : List (Bool × List UInt8)} {out : List UInt8} {Fs : List Nat}
theorem Wh.start (n : Nat) : Wh n 0 [] s0 [] [] [] := ⟨Tm.Run.start, Tm.FS.start n, (Nat.zero_mul n).symm, fun x h => (by cases h), fun h => absurd rfl h, fun p h => (by cases h), rfl, Nat.zero_le _⟩
theorem Wh.gd (h : Wh n i A s T out Fs) (hi : i ≤ 60) : Gd s := ⟨⟨A, T, out, h.run⟩, by have := h.wt; omega⟩
theorem Wh.add (h : Wh n i A s T out Fs) (m : Nat) (h1 : 7 ≤ m) (h2 : m ≤ 306) : Wh n (i + 1) (A ++ [mk m]) ⟨s.q ++ [mk m], s.bg, s.re⟩ T out Fs := by
  have l := mk_len m h1
  refine ⟨h.run.add (fun e => ?_), h.fs, h.ol, h.pk, h.ends, fun p hp => ?_, by rw [List.length_append, h.al]; rfl, ?_⟩
  · rw [e] at l; simp at l; omega
  · rcases List.mem_append.1 hp with e | e
    · exact h.apk p e
    · exact ⟨m, h1, h2, List.mem_singleton.1 e⟩
  · show (s.q ++ [mk m]).flatten.length ≤ _
    rw [List.flatten_append, List.length_append, show [mk m].flatten = mk m by simp, l]
    have := h.wt
    unfold Tm.wait at this
    omega
theorem started_le (q : List (List UInt8)) (bg : Bool) (room : Nat) : (Tm.pend q bg).length + (Tm.started q bg room).flatten.length ≤ Tm.wait q := by
  obtain ⟨b1, b2⟩ := Tm.started_bytes q bg room 0 0
  obtain ⟨c1, c2⟩ := Tm.pull_bytes q bg room 0 0
  have l := congrArg List.length b1
  rw [List.length_append, List.length_append, c1] at l
  have p := congrArg List.length (Tm.pend_flat (Tm.pull q bg room 0 0).2.2.1 (Tm.pull q bg room 0 0).2.2.2)
  rw [List.length_append, c2] at p
  have t := congrArg List.length (List.take_append_drop room q.flatten)
  rw [List.length_append] at t
  unfold Tm.wait
  omega
theorem mk_pkd {m : Nat} (h1 : 7 ≤ m) (h2 : m ≤ 306) : Tm.Pkd (false, mk m) := ⟨mkP m, rfl, mkP_ok m h1 (by omega), ⟨fun h => (by cases h), fun h => absurd h (by show (3 : Int) ≠ 2047; decide)⟩⟩
theorem idl_pkd {k : Nat} (h1 : 7 ≤ k) (h2 : k ≤ 200) : Tm.Pkd (true, idl k) := ⟨pkIdle (k - 6), by show idl k = _; unfold idl; rw [if_pos h1]; rfl, idle_ok _ (by omega) (by omega), ⟨fun _ => rfl, fun _ => rfl⟩⟩
theorem Wh.later (h : Wh n i A s T out Fs) : ∀ p ∈ Tm.later s.q s.bg, ∃ m, 7 ≤ m ∧ m ≤ 306 ∧ p = mk m := fun p hp => h.apk p (by rw [h.run.pks]; exact List.mem_append_right _ hp)
theorem Wh.tagd (h : Wh n i A s T out Fs) {l : List (List UInt8)} (hl : ∀ p ∈ l, p ∈ Tm.later s.q s.bg) : ∀ x ∈ Tm.tag l, Tm.Pkd x := fun x hx => by
  obtain ⟨p, hp, rfl⟩ := List.mem_map.1 hx
  obtain ⟨m, h1, h2, rfl⟩ := h.later p (hl p hp)
  exact mk_pkd h1 h2
theorem Wh.next (h : Wh n i A s T out Fs) (hn : 32 ≤ n ∧ n ≤ 200) :
    ∃ U, Wh n i A (Tm.next tmIdle n s).2.2 (T ++ U) (out ++ (Tm.next tmIdle n s).1) (Fs ++ [(Tm.next tmIdle n s).2.1]) := by
  obtain ⟨U, v, f, o, hU⟩ := h.fs.next h.run h.ol (idle := idl) idl_len hn
  rw [next_idl] at v f o
  refine ⟨U, v, f, o, fun x hx => ?_, fun hr => ?_, h.apk, h.al, Nat.le_trans (next_wait n s) h.wt⟩
  · rcases List.mem_append.1 hx with e | e
    · exact h.pk x e
    · rcases hU with rfl | ⟨k, k1, k2, rfl⟩
      · refine h.tagd (fun p hp => ?_) x e
        rw [(Tm.started_bytes s.q s.bg (n - s.re.length) 0 0).2]
        exact List.mem_append_left _ hp
      · rcases List.mem_append.1 e with e | e
        · exact h.tagd (fun p hp => hp) x e
        · rw [List.mem_singleton.1 e]
          exact idl_pkd k1 k2
  · rcases hU with rfl | ⟨k, k1, k2, rfl⟩
    · exfalso
      by_cases g : n ≤ s.re.length + Tm.wait s.q
      · exact hr ((Tm.next_less (idle := tmIdle)).1 g).1
      · have b := congrArg List.length v.bytes
        have b0 := congrArg List.length h.run.bytes
        have sl := started_le s.q s.bg (n - s.re.length)
        have ol := h.ol
        have fl : (out ++ (Tm.next tmIdle n s).1).length = out.length + n := by
          rw [o, List.length_append, ol]
          show (Fs.length + 1) * n = _
          rw [Nat.succ_mul]
        rw [Tm.flat_app, Tm.flat_tag, List.length_append, List.length_append, fl, List.length_append] at b
        rw [List.length_append, List.length_append] at b0
        omega
    · exact ⟨T ++ Tm.tag (Tm.later s.q s.bg), idl k, by rw [List.append_assoc]⟩
theorem Wh.asS (h : Wh n i A s T out Fs) (hi : i < 60) (m : Nat) (h1 : 7 ≤ m) (h2 : m ≤ 306) : acV s (bs (mk m)) = 0 ∧ asS s (bs (mk m)) = ⟨s.q ++ [mk m], s.bg, s.re⟩ := by
  have hb : Pk.busy (bs (mk m)).data.toList = true := by rw [bs_list]; exact mk_busy m h1 (by omega)
  have hs : (bs (mk m)).size = m := by rw [bs_size, mk_len m h1]
  have hf : ¬ 65536 < Tm.wait s.q + (bs (mk m)).size := by rw [hs]; have := h.wt; omega
  unfold acV Go.Proofs.Ytgcjfiablcjfgaa.asS
  rw [if_pos hb, if_neg hf, if_pos ⟨hb, hf⟩, bs_list]
  exact ⟨rfl, rfl⟩
end
/-- The landed filler with the blocks in which it lies. -/
def PV (w : World) (n0 X n : Nat) (s : Tm.Fl) (va vb : Value) : Prop := ∃ B G r, PFl w n0 X n r va vb B G ∧ Tm.Rel s B G r
section
variable {w w' : World} {n0 X n : Nat} {s : Tm.Fl} {va vb : Value}
theorem PV.keep (h : PV w n0 X n s va vb) (hs : ∀ g, SX X va vb g → w'.heap[g]? = w.heap[g]?) : PV w' n0 X n s va vb := by
  obtain ⟨B, G, r, h1, h2⟩ := h
  exact ⟨B, G, r, h1.keep hs, h2⟩
theorem PV.ty (h : PV w n0 X n s va vb) {g : Nat} (hg : SX X va vb g) : ∃ t, t ∈ XTs ∧ TyB w g t := by
  obtain ⟨B, G, r, h1, h2⟩ := h
  rcases hg with rfl | hg | hg
  · exact ⟨_, by simp, h1.ty⟩
  · exact ⟨_, by simp, (h1.ba.blk hg).2⟩
  · exact ⟨_, by simp, (h1.be.blk hg).2⟩
theorem PV.lt (h : PV w n0 X n s va vb) {g : Nat} (hg : SX X va vb g) : g < w.heap.size := by
  obtain ⟨t, _, T⟩ := h.ty hg
  exact T.lt
theorem PV.below (h : PV w n0 X n s va vb) (hb : Below w.heap.size w w') : PV w' n0 X n s va vb := h.keep (fun g hg => hb.block g (h.lt hg))
theorem vnext (h : PV w n0 X n s va vb) (g : Gd s) (hn : 32 ≤ n ∧ n ≤ 200) (hn0 : n0 ≤ w.heap.size) :
    Calls Try.prog 16 #[.pointer (some ⟨X, 0, none⟩)] w fun e w' => e = .returned (nxV n s) ∧ ∃ va' vb', PV w' n0 X n (nxS n s) va' vb' ∧ KF n0 (SX X va vb) (SX X va' vb') w w' := by
  obtain ⟨B, G, r, h1, h2⟩ := h
  obtain ⟨b1, b2, b3, b4, b5⟩ := g.bounds h2
  unfold nxV nxS
  by_cases hz : Tm.wait s.q = 0
  · rw [if_pos hz, if_pos hz]
    refine (tnext_none h1 (by omega) (by omega) (by omega)).mono ?_
    rintro e w' ⟨rfl, m, rfl⟩
    have hb : Below w.heap.size w (w.drewN m) := below_drewN (Below.refl _ _) _
    exact ⟨rfl, va, vb, ⟨B, G, r, h1.below hb, h2⟩, KF.of_below hb hn0⟩
  · rw [if_neg hz, if_neg hz]
    obtain ⟨⟨A, T, out, u⟩, hw⟩ := g
    obtain ⟨c1, c2⟩ := Tm.Rel.next (idle := idl) u h2 idl_len hn
    rw [next_idl] at c1 c2
    by_cases hf : n ≤ B.length
    · obtain ⟨e1, e2, e3⟩ := c1 hf
      refine (tnext_full h1 (by omega) (by omega) (by omega) (fun x hx => Nat.le_trans (b5 x hx) (by omega)) hn hn0 (by omega) hf).mono ?_
      rintro e w' ⟨rfl, va', vb', p, k⟩
      exact ⟨by rw [e1, e2], va', vb', ⟨_, _, _, p, e3⟩, k⟩
    · obtain ⟨e1, e2, e3⟩ := c2 (by omega)
      rw [idl_max] at e1 e3
      refine (tnext_idle h1 (by omega) (by omega) (by omega) (fun x hx => Nat.le_trans (b5 x hx) (by omega)) hn hn0 (by omega) (by omega) (tmIdle (max (n - B.length) 7)) rfl).mono ?_
      rintro e w' ⟨rfl, va', vb', p, k⟩
      exact ⟨by rw [e1, e2], va', vb', ⟨_, _, _, p, e3⟩, k⟩
theorem vadd (h : PV w n0 X n s va vb) (g : Gd s) (hn0 : n0 ≤ w.heap.size) (p : ByteArray) (hp : p.size ≤ 2000) :
    Calls Try.prog 17 #[.pointer (some ⟨X, 0, none⟩), .string p] w fun e w' => e = .returned (.int .i64 (acV s p)) ∧ ∃ va' vb', PV w' n0 X n (asS s p) va' vb' ∧ KF n0 (SX X va vb) (SX X va' vb') w w' := by
  obtain ⟨B, G, r, h1, h2⟩ := h
  obtain ⟨b1, b2, b3, b4, b5⟩ := g.bounds h2
  unfold acV asS
  by_cases hb : Pk.busy p.data.toList = true
  · rw [if_pos hb]
    by_cases hf : 65536 < Tm.wait s.q + p.size
    · rw [if_pos hf, if_neg (fun q => q.2 hf)]
      refine (tAdd_full h1 (by omega) (by omega) p (by omega) hb (by omega)).mono ?_
      rintro e w' ⟨rfl, k⟩
      exact ⟨rfl, va, vb, ⟨B, G, r, h1.below k, h2⟩, KF.of_below k hn0⟩
    · rw [if_neg hf, if_pos ⟨hb, hf⟩]
      refine (tAdd_ok h1 (by omega) (by omega) (by omega) hn0 p (busy_pos hb) hb (by omega)).mono ?_
      rintro e w' ⟨rfl, va', vb', q, k⟩
      obtain ⟨⟨A, T, out, u⟩, hw⟩ := g
      exact ⟨rfl, va', vb', ⟨_, _, _, q, h2.add u.bgq p.data.toList⟩, k⟩
  · have hbf : Pk.busy p.data.toList = false := by simpa using hb
    rw [if_neg hb, if_neg (fun q => hb q.1)]
    refine (tAdd_form h1 p (by omega) hbf).mono ?_
    rintro e w' ⟨rfl, k⟩
    exact ⟨rfl, va, vb, ⟨B, G, r, h1.below k, h2⟩, KF.of_below k hn0⟩
end
def nVs (l : List Nat) : List Value := l.map fun f => .int .i64 (f : Nat)
theorem nVs_len (l : List Nat) : (nVs l).length = l.length := List.length_map ..
theorem nVs_add (l : List Nat) (f : Nat) : nVs l ++ [.int .i64 (f : Nat)] = nVs (l ++ [f]) := by unfold nVs; rw [List.map_append]; rfl
/-- The memory of the first three loops: the filler, the packets that are wanted, what was said of the fields. -/
structure LI (w0 : World) (n0 X n : Nat) (s : Tm.Fl) (W : List ByteArray) (Fs : List Nat) (sv1 sv2 : Value) (wr : World) : Prop where
  px : ∃ va vb, PV wr n0 X n s va vb ∧ ∀ g, sv2.ownBlock = some g → ¬ SX X va vb g
  r1 : wr.ownsRow n0 9 1 sv1 W.length (strVs W)
  r2 : wr.ownsRow n0 3 1 sv2 Fs.length (nVs Fs)
  bl : Below n0 w0 wr
  hs : n0 ≤ wr.heap.size
section
variable {w0 wr w' : World} {n0 X n : Nat} {s : Tm.Fl} {W : List ByteArray} {Fs : List Nat} {sv1 sv2 : Value}
theorem LI.below (h : LI w0 n0 X n s W Fs sv1 sv2 wr) (hb : Below wr.heap.size wr w') : LI w0 n0 X n s W Fs sv1 sv2 w' := by
  obtain ⟨va, vb, p, q⟩ := h.px
  exact ⟨⟨va, vb, p.below hb, q⟩, own_below h.r1 hb, own_below h.r2 hb, h.bl.trans (hb.mono h.hs), Nat.le_trans h.hs hb.size⟩
theorem LI.step {va vb va' vb' : Value} {s' : Tm.Fl} (h : LI w0 n0 X n s W Fs sv1 sv2 wr) (p : PV wr n0 X n s va vb) (q : ∀ g, sv2.ownBlock = some g → ¬ SX X va vb g) (p' : PV w' n0 X n s' va' vb') (k : KF n0 (SX X va vb) (SX X va' vb') wr w') : LI w0 n0 X n s' W Fs sv1 sv2 w' :=
  ⟨⟨va', vb', p', fun g hg hs => by
    rcases k.own g hs with e | e
    · exact q g hg e
    · have := own_block_lt h.r2 hg
      omega⟩, own_keep h.r1 (fun g hg hl => k.rest g hl (fun hs => by
    obtain ⟨t, ht, T⟩ := p.ty hs
    exact ty_ne T (own_ty h.r1 hg).2 (fun e => by subst e; exact absurd ht (by decide)) rfl)), own_keep h.r2 (fun g hg hl => k.rest g hl (q g hg)), h.bl.trans k.below, Nat.le_trans h.hs k.below.size⟩
theorem LI.next (h : LI w0 n0 X n s W Fs sv1 sv2 wr) (g : Gd s) (hn : 32 ≤ n ∧ n ≤ 200) :
    Calls Try.prog 16 #[.pointer (some ⟨X, 0, none⟩)] wr fun e w' => e = .returned (nxV n s) ∧ LI w0 n0 X n (nxS n s) W Fs sv1 sv2 w' := by
  obtain ⟨va, vb, p, q⟩ := h.px
  refine (vnext p g hn h.hs).mono ?_
  rintro e w' ⟨rfl, va', vb', p', k⟩
  exact ⟨rfl, h.step p q p' k⟩
theorem LI.add (h : LI w0 n0 X n s W Fs sv1 sv2 wr) (g : Gd s) (b : ByteArray) (hb : b.size ≤ 2000) :
    Calls Try.prog 17 #[.pointer (some ⟨X, 0, none⟩), .string b] wr fun e w' => e = .returned (.int .i64 (acV s b)) ∧ LI w0 n0 X n (asS s b) W Fs sv1 sv2 w' := by
  obtain ⟨va, vb, p, q⟩ := h.px
  refine (vadd p g h.hs b hb).mono ?_
  rintro e w' ⟨rfl, va', vb', p', k⟩
  exact ⟨rfl, h.step p q p' k⟩
theorem LI.wait (h : LI w0 n0 X n s W Fs sv1 sv2 wr) (g : Gd s) :
    Calls Try.prog 19 #[.pointer (some ⟨X, 0, none⟩)] wr fun e w' => e = .returned (.int .i64 (Tm.wait s.q : Nat)) ∧ LI w0 n0 X n s W Fs sv1 sv2 w' := by
  obtain ⟨va, vb, ⟨B, G, r, p1, p2⟩, q⟩ := h.px
  refine (xwait (n0 := n0) (n := n) ⟨va, vb, B, G, r, p1, p2⟩ g).mono ?_
  rintro e w' ⟨rfl, hb⟩
  exact ⟨rfl, h.below hb⟩
/-- A packet more is wanted. -/
theorem LI.app1 {w2 w3 : World} {sv' : Value} {b : ByteArray} (h : LI w0 n0 X n s W Fs sv1 sv2 wr) (hb : Below wr.heap.size wr w2) (g : w2.grownBy w3 sv1.ownBlock) (o : w3.ownsRow n0 9 1 sv' (W.length + 1) (strVs W ++ [.string b])) : LI w0 n0 X n s (W ++ [b]) Fs sv' sv2 w3 := by
  have h2 := h.below hb
  obtain ⟨va, vb, p, q⟩ := h2.px
  refine ⟨⟨va, vb, p.keep (fun c hc => g.block c (p.lt hc) (fun e => ?_)), q⟩, ?_, own_keep h2.r2 (fun c hc hl => g.block c hl (fun e => ?_)), h2.bl.grown g h2.hs (fun k e => ?_), Nat.le_trans h2.hs g.size⟩
  · obtain ⟨t, ht, T⟩ := p.ty hc
    exact ty_ne T (own_ty h2.r1 e.symm).2 (fun e => by subst e; exact absurd ht (by decide)) rfl
  · rw [List.length_append, ← strVs_add]
    exact o
  · exact ty_ne (own_ty h2.r2 hc).2 (own_ty h2.r1 e.symm).2 (by decide) rfl
  · exact (own_ty h2.r1 e).1
/-- What was said of a field more. -/
theorem LI.app2 {w2 w3 : World} {sv' : Value} {f : Nat} (h : LI w0 n0 X n s W Fs sv1 sv2 wr) (hb : Below wr.heap.size wr w2) (g : w2.grownBy w3 sv2.ownBlock) (o : w3.ownsRow n0 3 1 sv' (Fs.length + 1) (nVs Fs ++ [.int .i64 (f : Nat)])) (k : sv'.ownBlock = sv2.ownBlock ∨ sv'.ownBlock = some w2.heap.size) : LI w0 n0 X n s W (Fs ++ [f]) sv1 sv' w3 := by
  have h2 := h.below hb
  obtain ⟨va, vb, p, q⟩ := h2.px
  refine ⟨⟨va, vb, p.keep (fun c hc => g.block c (p.lt hc) (fun e => q c e.symm hc)), fun c hc hs => ?_⟩, own_keep h2.r1 (fun c hc hl => g.block c hl (fun e => ?_)), ?_, h2.bl.grown g h2.hs (fun k e => ?_), Nat.le_trans h2.hs g.size⟩
  · rcases k with e | e
    · exact q c (e ▸ hc) hs
    · rw [e] at hc
      cases hc
      exact absurd (p.lt hs) (Nat.lt_irrefl _)
  · exact ty_ne (own_ty h2.r1 hc).2 (own_ty h2.r2 e.symm).2 (by decide) rfl
  · rw [List.length_append, ← nVs_add]
    exact o
  · exact (own_ty h2.r2 e).1
end
end Go.Proofs.Ytgcjfiablcjfgaa
