/- Layer 9: an argument that is a list of packets: opened, and shut again; Feed of any packet. -/
import Derived.Test.YtphkaambodecdaaPkArg
import Derived.Test.YtphkaambodecdaaPkEq
namespace Go.Proofs.Ytphkaambodecdaa
open Go.ChangeShapes Go.WideShapes Go.ChangeAt Go.RowKit Go.Deep
set_option linter.unusedVariables false
set_option maxRecDepth 100000

instance pktInh : Inhabited Pkt := ⟨pk0⟩
/-- The slice at a reads as these packets. -/
def Pkts (w : World) (a : Option Addr) (l : List Pkt) : Prop := l = [] ∨ ∃ B off, a = some ⟨B, off, none⟩ ∧ B < w.heap.size ∧ ∀ i q, l[i]? = some q → (∀ j u, (pkCells q)[j]? = some u → w.cell? ⟨B, off + i * 5 + j, none⟩ = some u) ∧ PkWf q
theorem Pkts.below {w w' : World} {a : Option Addr} {l : List Pkt} (h : Pkts w a l) (hb : Below w.heap.size w w') : Pkts w' a l := by
  rcases h with h | ⟨B, off, e, hl, hc⟩
  · exact .inl h
  · exact .inr ⟨B, off, e, Nat.lt_of_lt_of_le hl hb.size, fun i x hx => ⟨fun j u hu => (hb.cell (p := ⟨B, off + i * 5 + j, none⟩) hl).trans ((hc i x hx).1 j u hu), (hc i x hx).2⟩⟩
theorem addr_eta (a : Addr) (h : a.spot = none) : a = ⟨a.block, a.off, none⟩ := by
  obtain ⟨b, o, s⟩ := a
  simp only at h
  subst h
  rfl
section
variable {H : Type} {enc : TypeId × Value → H}
theorem pks_arg {w : World} {v : Value} {d : DataW H} {p : List MemPlace} (hv : v.cells.toList = [v]) (hd : DataW.Trod enc Try.prog w 0 (fun _ => true) true 36 v d p) :
    ∃ a l cap, v = .slice a l.length cap ∧ l.length ≤ cap ∧ cap ≤ maxLen ∧ Pkts w a l ∧ ∀ W', Below w.heap.size w W' → ∀ sp : Nat → Bool, (∀ q ∈ p, sp q.block = true) → DataW.Trod enc Try.prog W' 0 sp true 36 v d p := by
  have ST := fun W' (hb : Below w.heap.size w W') (sp : Nat → Bool) (hs : ∀ q ∈ p, sp q.block = true) => pk_stay (t := 36) (by kernel_rfl) (of_decide_eq_true (by kernel_rfl)) hd hb (sp := sp) hs
  obtain ⟨fuel, hf⟩ := hd
  rw [hv] at hf
  rcases open_slice Try.underlying36 hf with ⟨h1, h2⟩ | ⟨a, len, cap, m, n, D, Pl, h1, hb, hl, hm, hmm, hx, hel⟩
  · simp only [List.cons.injEq, and_true] at h1
    subst h1
    exact ⟨none, [], 0, rfl, Nat.le_refl _, by unfold maxLen; omega, .inl rfl, ST⟩
  · simp only [List.cons.injEq, and_true] at h1
    subst h1
    obtain rfl : m = cap := by simpa using hmm
    rw [cells_packet] at hel
    obtain ⟨q, hq⟩ := choose_lt (α := Pkt) (p := fun i q => w.cells? 0 (a.add (i * 5)) 5 = some (pkCells q) ∧ PkWf q) (fun i hi => by
      obtain ⟨cs', g1, g2⟩ := hel i hi
      obtain ⟨x, rfl, hr⟩ := packet_cells g2
      exact ⟨x, g1, hr⟩)
    refine ⟨some a, (List.range len).map q, m, by simp, by simpa using hl, hm, ?_, ST⟩
    rcases Nat.eq_zero_or_pos len with h0 | h0
    · exact .inl (by rw [h0]; rfl)
    · have base : a.block < w.heap.size ∧ a.spot = none := by
        obtain ⟨_, _, hat⟩ := World.cells?_some (hq 0 (by omega)).1
        have h0' := hat 0 (by omega)
        rw [Go.Deep.add_add] at h0'
        have h5 := World.block_lt_of_cell? w _ (show w.cell? (a.add (0 * 5 + 0)) = some (.bool (q 0).cmd) from h0')
        rw [ChangeShapes.block_add] at h5
        exact ⟨h5, World.cell?_spot (a := a) (show w.cell? (a.add 0) = some (.bool (q 0).cmd) from h0')⟩
      refine .inr ⟨a.block, a.off, congrArg some (addr_eta a base.2), base.1, fun i x hx => ?_⟩
      have hi : i < len := by
        have := (List.getElem?_eq_some_iff.1 hx).1
        simpa using this
      rw [List.getElem?_map, List.getElem?_range hi] at hx
      simp only [Option.map_some, Option.some.injEq] at hx
      subst hx
      obtain ⟨g1, g2⟩ := hq i (by omega)
      refine ⟨fun j u hu => ?_, g2⟩
      obtain ⟨_, _, hat⟩ := World.cells?_some g1
      have hj : j < 5 := by
        have := (List.getElem?_eq_some_iff.1 hu).1
        exact this
      have hj' := hat j hj
      rw [Go.Deep.add_add, hu] at hj'
      rw [← hj']
      have e := addr_eta a base.2
      rw [show a.add (i * 5 + j) = (⟨a.block, a.off, none⟩ : Addr).add (i * 5 + j) by rw [← e], add_off, Nat.add_assoc]
end
/-- Feed of any packet: what is known of another APID stays. -/
theorem pfeed_any {w : World} {n0 j m cnt : Nat} {F : Int → Option Pk.St} {D : DataW Value} {S : Int → Value} (h : PJ w n0 j m cnt F D S) (hn0 : n0 ≤ w.heap.size) (hcnt : cnt < 1000000) (p : Pkt) (hs : p.da.size ≤ maxLen) :
    Calls Try.prog 25 #[.pointer (some ⟨j, 0, none⟩), pkVal p] w fun e w' => ∃ (v : Pk.Pc) (c : Int) (cnt' : Nat) (F' : Int → Option Pk.St) (D' : DataW Value) (S' : Int → Value), e = .returned (.tuple #[pcV v, .int .i64 c]) ∧ PJ w' n0 j m cnt' F' D' S' ∧ cnt' ≤ cnt + 1 ∧ (∀ a, a ≠ p.ap → F' a = F a) ∧ Kp n0 [5] true w w' := by
  by_cases ho : Pk.Ok p
  · by_cases hi : p.ap = 2047
    · refine (pfeed_idle h p hs ho hi).mono ?_
      rintro e w' ⟨rfl, hb⟩
      exact ⟨_, _, cnt, F, D, S, rfl, h.below hb, by omega, fun _ _ => rfl, Kp.of_below hb hn0⟩
    · refine (pfeed_ok h hn0 hcnt p ho hi).mono ?_
      rintro e w' ⟨D', S', rfl, hJ, hk⟩
      exact ⟨_, _, cnt + 1, _, D', S', rfl, hJ, by omega, fun a ha => upd_ne _ _ ha, hk⟩
  · refine (pfeed_bad h p hs ho).mono ?_
    rintro e w' ⟨rfl, hb⟩
    exact ⟨_, _, cnt, F, D, S, rfl, h.below hb, by omega, fun _ _ => rfl, Kp.of_below hb hn0⟩
end Go.Proofs.Ytphkaambodecdaa
