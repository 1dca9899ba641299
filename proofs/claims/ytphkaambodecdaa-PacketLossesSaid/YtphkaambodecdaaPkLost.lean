/- PacketLosses: what holds between two packets of a message, and between two messages. -/
import Derived.Test.YtphkaambodecdaaPkStrs
import Derived.Test.YtphkaambodecdaaPkJoin
namespace Go.Proofs.Ytphkaambodecdaa
open Go.RowKit
set_option linter.unusedVariables false
set_option maxRecDepth 100000

theorem Pk.cnt_le {n mo : Nat} (h : 1 ≤ mo) : Pk.cnt n mo ≤ n := by
  apply Nat.le_of_not_lt
  intro g
  have := (Pk.cnt_lt (n := n) (most := mo) (k := n) h).1 g
  have : n * 1 ≤ n * mo := Nat.mul_le_mul_left _ h
  omega
/-- The joiner and the two rows of messages, which are apart. -/
structure Lo (w : World) (n0 j m cn : Nat) (F : Int → Option Pk.St) (D : DataW Value) (S : Int → Value) (want got : Value) (L G : List ByteArray) : Prop where
  pj : PJ w n0 j m cn F D S
  wa : w.ownsRow n0 9 1 want L.length (strVs L)
  go : w.ownsRow n0 9 1 got G.length (strVs G)
  ap : ∀ k, got.ownBlock = some k → want.ownBlock ≠ some k
namespace Lo
variable {w w' : World} {n0 j m cn : Nat} {F : Int → Option Pk.St} {D : DataW Value} {S : Int → Value} {want got : Value} {L G : List ByteArray}
theorem below (h : Lo w n0 j m cn F D S want got L G) (hb : Below w.heap.size w w') : Lo w' n0 j m cn F D S want got L G := ⟨h.pj.below hb, own_below h.wa hb, own_below h.go hb, h.ap⟩
theorem feed (h : Lo w n0 j m cn F D S want got L G) {cn' : Nat} {F' : Int → Option Pk.St} {D' : DataW Value} {S' : Int → Value} (J : PJ w' n0 j m cn' F' D' S') (k : Kp n0 [5] true w w') : Lo w' n0 j m cn' F' D' S' want got L G :=
  ⟨J, k.own h.wa (by decide), k.own h.go (by decide), h.ap⟩
theorem got_app (h : Lo w n0 j m cn F D S want got L G) (hn0 : n0 ≤ w.heap.size) {o : Obj} {v' : Value} {s : ByteArray} (hg : (w.alloc o).grownBy w' got.ownBlock) (ho : w'.ownsRow n0 9 1 v' (G.length + 1) (strVs G ++ [.string s])) (hb : v'.ownBlock = got.ownBlock ∨ v'.ownBlock = some (w.alloc o).heap.size) :
    Lo w' n0 j m cn F D S want v' L (G ++ [s]) ∧ Kp n0 [9] false w w' := by
  have B1 : Below w.heap.size w (w.alloc o) := ba (Below.refl _ _) _
  have h1 := h.below B1
  have sz : w.heap.size ≤ (w.alloc o).heap.size := B1.size
  have K : Kp n0 [9] false (w.alloc o) w' := Kp.of_grown hg (fun k hk => own_ty h1.go hk) (Nat.le_trans hn0 sz)
  refine ⟨⟨h1.pj.kp K (by decide) (by decide), own_keep h1.wa (fun g hg' hlt => hg.block g hlt (fun e => h.ap g e.symm hg')), ?_, fun k hk hw => ?_⟩, (Kp.of_below B1 hn0).trans K⟩
  · rw [strVs_add] at ho
    rw [List.length_append]
    exact ho
  · rcases hb with e | e
    · rw [e] at hk
      exact h.ap k hk hw
    · rw [e] at hk
      cases hk
      have := own_block_lt h1.wa hw
      omega
theorem want_app (h : Lo w n0 j m cn F D S want got L G) (hn0 : n0 ≤ w.heap.size) {o : Obj} {v' : Value} {s : ByteArray} (hg : (w.alloc o).grownBy w' want.ownBlock) (ho : w'.ownsRow n0 9 1 v' (L.length + 1) (strVs L ++ [.string s])) (hb : v'.ownBlock = want.ownBlock ∨ v'.ownBlock = some (w.alloc o).heap.size) :
    Lo w' n0 j m cn F D S v' got (L ++ [s]) G ∧ Kp n0 [9] false w w' := by
  have B1 : Below w.heap.size w (w.alloc o) := ba (Below.refl _ _) _
  have h1 := h.below B1
  have sz : w.heap.size ≤ (w.alloc o).heap.size := B1.size
  have K : Kp n0 [9] false (w.alloc o) w' := Kp.of_grown hg (fun k hk => own_ty h1.wa hk) (Nat.le_trans hn0 sz)
  refine ⟨⟨h1.pj.kp K (by decide) (by decide), ?_, own_keep h1.go (fun g hg' hlt => hg.block g hlt (fun e => h.ap g hg' e.symm)), fun k hk hw => ?_⟩, (Kp.of_below B1 hn0).trans K⟩
  · rw [strVs_add] at ho
    rw [List.length_append]
    exact ho
  · rcases hb with e | e
    · rw [e] at hw
      exact h.ap k hk hw
    · rw [e] at hw
      cases hw
      have := own_block_lt h1.go hk
      omega
end Lo
/-- Between two messages. -/
structure LoI (zs : List ByteArray) (N n0 j m : Nat) (w1 : World) (i c A M W cn : Nat) (F : Int → Option Pk.St) (D : DataW Value) (S : Int → Value) (want got : Value) (L : List ByteArray) (w : World) : Prop where
  hi : i ≤ N
  hc : c < 16384
  al : A + lgT (zs.drop i) ≤ 6000
  cl : cn ≤ A
  mw : M + W ≤ A
  nx : ∀ x, F 9 = some x → (c : Int) % 16384 = (x.next + W) % 16384
  op : 0 < W ∨ Pk.opn (F 9) = none
  ll : L.length ≤ i
  lo : Lo w n0 j m cn F D S want got L L
  bl : Below n0 w1 w
/-- Between two packets. -/
structure LoK (n0 j m : Nat) (w5 : World) (c mo K A0 : Nat) (d : List UInt8) (s : ByteArray) (want : Value) (L : List ByteArray) (k A M W cn : Nat) (b : Bool) (F : Int → Option Pk.St) (D : DataW Value) (S : Int → Value) (got : Value) (G : List ByteArray) (w : World) : Prop where
  hk : k ≤ K
  ak : A = A0 + k
  cl : cn ≤ A
  mw : M + W ≤ A
  inv : k < K → Pk.Inv (c : Int) d mo k W b (F 9)
  nx : k = K → ∀ x, F 9 = some x → ((c : Int) + K) % 16384 = (x.next + W) % 16384
  op : k = K → 0 < W ∨ Pk.opn (F 9) = none
  gg : G = if k = K ∧ b = true then L ++ [s] else L
  lo : Lo w n0 j m cn F D S want got L G
  kp : Kp n0 [5, 9] true w5 w
section
variable {n0 j m : Nat} {w5 w w' : World} {c mo K A0 : Nat} {d : List UInt8} {s : ByteArray} {want : Value} {L : List ByteArray} {k A M W cn : Nat} {b : Bool} {F : Int → Option Pk.St} {D : DataW Value} {S : Int → Value} {got : Value} {G : List ByteArray}
theorem LoK.start (h0 : 0 < K) (cl : cn ≤ A0) (mw : M + W ≤ A0) (nx : ∀ x, F 9 = some x → (c : Int) % 16384 = (x.next + W) % 16384) (op : 0 < W ∨ Pk.opn (F 9) = none) (lo : Lo w n0 j m cn F D S want got L L) :
    LoK n0 j m w c mo K A0 d s want L 0 A0 M W cn true F D S got L w :=
  ⟨Nat.zero_le _, rfl, cl, mw, fun _ => Pk.Inv.start nx op, fun e => by omega, fun e => by omega, by rw [if_neg (by omega)], lo, Kp.refl _ _ _ _⟩
theorem LoK.lose (h : LoK n0 j m w5 c mo K A0 d s want L k A M W cn b F D S got G w) (hk : k < K) :
    LoK n0 j m w5 c mo K A0 d s want L (k + 1) (A + 1) M (W + 1) cn false F D S got G w :=
  ⟨hk, by rw [h.ak]; rfl, by have := h.cl; omega, by have := h.mw; omega, fun _ => (h.inv hk).lose, fun e x hx => by
    have := (h.inv hk).lose.next x hx
    rw [← e]
    exact this, fun _ => .inl (by omega), by
    rw [h.gg, if_neg (by omega), if_neg (by simp)], h.lo, h.kp⟩
theorem LoK.wlt (h : LoK n0 j m w5 c mo K A0 d s want L k A M W cn b F D S got G w) (hA : A ≤ 6000) : W < 16384 := by have := h.mw; omega
/-- A packet is fed, with what the document says of it. -/
theorem LoK.fed (h : LoK n0 j m w5 c mo K A0 d s want L k A M W cn b F D S got G w) (hk : k < K) {st : Pk.St} {wh : Bool} {mi : Nat} (hn0 : n0 ≤ w.heap.size) (hcn : K = Pk.cnt d.length mo) (hm : 1 ≤ mo)
    (a1 : mi ≤ W) (a2 : wh = true ↔ (b = true ∧ d.length ≤ (k + 1) * mo)) (a4 : (k + 1) * mo < d.length → Pk.Inv (c : Int) d mo (k + 1) 0 b (some st)) (a5 : d.length ≤ (k + 1) * mo → st.op = none) (a6 : st.next = ((c : Int) + (k + 1 : Nat)) % 16384)
    {D' : DataW Value} {S' : Int → Value} {w6 : World} (J : PJ w6 n0 j m (cn + 1) (upd F 9 (some st)) D' S') (kp : Kp n0 [5] true w w6) (hb : Below w6.heap.size w6 w') :
    (wh = false → LoK n0 j m w5 c mo K A0 d s want L (k + 1) (A + 1) (M + mi) 0 (cn + 1) b (upd F 9 (some st)) D' S' got G w') ∧
    (wh = true → Lo w' n0 j m (cn + 1) (upd F 9 (some st)) D' S' want got L G ∧ ∀ got' w2, Lo w2 n0 j m (cn + 1) (upd F 9 (some st)) D' S' want got' L (G ++ [s]) → Kp n0 [9] false w' w2 → LoK n0 j m w5 c mo K A0 d s want L (k + 1) (A + 1) (M + mi) 0 (cn + 1) b (upd F 9 (some st)) D' S' got' (G ++ [s]) w2) := by
  have lo6 := (h.lo.feed J kp).below hb
  have k6 : Kp n0 [5, 9] true w5 w' := (h.kp.trans (kp.weaken (fun t ht => by simp at ht; simp [ht]) (fun q => q))).trans (Kp.of_below hb (Nat.le_trans hn0 kp.below.size))
  have lst : k + 1 = K ↔ d.length ≤ (k + 1) * mo := by
    have e := Pk.cnt_lt (n := d.length) (most := mo) (k := k + 1) hm
    rw [← hcn] at e
    constructor
    · intro g
      apply Nat.le_of_not_lt
      intro q
      have := e.2 q
      omega
    · intro g
      apply Classical.byContradiction
      intro q
      have := e.1 (by omega)
      omega
  have GL : G = L := by rw [h.gg, if_neg (by omega)]
  have i1 : k + 1 < K → Pk.Inv (c : Int) d mo (k + 1) 0 b (upd F 9 (some st) 9) := fun q => by
    rw [upd_same]
    refine a4 ?_
    apply Nat.lt_of_not_le
    intro g
    have := lst.2 g
    omega
  have i2 : k + 1 = K → ∀ x, upd F 9 (some st) 9 = some x → ((c : Int) + K) % 16384 = (x.next + (0 : Nat)) % 16384 := fun q x hx => by
    rw [upd_same] at hx
    cases hx
    rw [a6, ← q]
    omega
  have i3 : k + 1 = K → 0 < 0 ∨ Pk.opn (upd F 9 (some st) 9) = none := fun q => by
    rw [upd_same]
    exact .inr (a5 (lst.1 q))
  refine ⟨fun e => ⟨hk, by rw [h.ak]; rfl, by have := h.cl; omega, by have := h.mw; omega, i1, i2, i3, ?_, lo6, k6⟩, fun e => ⟨lo6, fun got' w2 lo2 kp2 => ⟨hk, by rw [h.ak]; rfl, by have := h.cl; omega, by have := h.mw; omega, i1, i2, i3, ?_, lo2, k6.trans (kp2.weaken (fun t ht => by simp at ht; simp [ht]) (fun q => by cases q))⟩⟩⟩
  · rw [GL, if_neg]
    rintro ⟨g1, g2⟩
    have := a2.2 ⟨g2, lst.1 g1⟩
    rw [e] at this
    cases this
  · obtain ⟨g1, g2⟩ := a2.1 e
    rw [GL, if_pos ⟨lst.2 g2, g1⟩]
end
/-- A message is over. -/
theorem LoK.fin {n0 j m : Nat} {w5 w w' : World} {c mo K A0 : Nat} {d : List UInt8} {s : ByteArray} {want : Value} {L : List ByteArray} {A M W cn : Nat} {b : Bool} {F : Int → Option Pk.St} {D : DataW Value} {S : Int → Value} {got : Value} {G : List ByteArray}
    (h : LoK n0 j m w5 c mo K A0 d s want L K A M W cn b F D S got G w) {zs : List ByteArray} {N i M0 W0 cn0 : Nat} {w1 w0 : World} {F0 : Int → Option Pk.St} {D0 : DataW Value} {S0 : Int → Value} {got0 : Value} (HI : LoI zs N n0 j m w1 i c A0 M0 W0 cn0 F0 D0 S0 want got0 L w0)
    (hz : zs[i]? = some s) (hlt : i < N) (hK : K ≤ s.size) (b5 : Below n0 w1 w5) {want' : Value} {L' : List ByteArray} (hl : L'.length ≤ L.length + 1) (lo : Lo w' n0 j m cn F D S want' got L' L') (kp : Below n0 w w') :
    LoI zs N n0 j m w1 (i + 1) ((c + K) % 16384) A M W cn F D S want' got L' w' :=
  ⟨hlt, Nat.mod_lt _ (by decide), by
    have e := lgT_drop zs hz
    have := HI.al
    have := h.ak
    omega, h.cl, h.mw, fun x hx => by
    have := h.nx rfl x hx
    omega, h.op rfl, by have := HI.ll; omega, lo, b5.trans (h.kp.below.trans kp)⟩
/-- An empty message. -/
theorem LoI.skip {zs : List ByteArray} {N n0 j m : Nat} {w1 w w' : World} {i c A M W cn : Nat} {F : Int → Option Pk.St} {D : DataW Value} {S : Int → Value} {want got : Value} {L : List ByteArray} {s : ByteArray} (h : LoI zs N n0 j m w1 i c A M W cn F D S want got L w) (hz : zs[i]? = some s) (hlt : i < N) (hn : n0 ≤ w.heap.size) (hb : Below w.heap.size w w') :
    LoI zs N n0 j m w1 (i + 1) c A M W cn F D S want got L w' :=
  ⟨hlt, h.hc, by
    have e := lgT_drop zs hz
    have := h.al
    omega, h.cl, h.mw, h.nx, h.op, by have := h.ll; omega, h.lo.below hb, h.bl.trans (hb.mono hn)⟩
/-- The two parts of a pair. -/
def tup0 : Value → Value
  | .tuple ⟨x :: _⟩ => x
  | _ => undef
def tup1 : Value → Value
  | .tuple ⟨_ :: x :: _⟩ => x
  | _ => undef
theorem tup0_mk (x y : Value) : tup0 (.tuple #[x, y]) = x := rfl
theorem tup1_mk (x y : Value) : tup1 (.tuple #[x, y]) = y := rfl
/-- What Split returns, as a value in memory. -/
def SpV (b0 K : Nat) (E : Int) (f : Nat → Pkt) (v : Value) (w : World) : Prop := ∃ sa sc, v = .tuple #[.slice sa K sc, .int .i64 E] ∧ w.ownsRow b0 23 5 (.slice sa K sc) K (pkL f K)
theorem SpV.mono {b0 K : Nat} {E : Int} {f : Nat → Pkt} {v : Value} {w w' : World} (h : SpV b0 K E f v w) (hb : Below w.heap.size w w') : SpV b0 K E f v w' := by
  obtain ⟨sa, sc, e, o⟩ := h
  exact ⟨sa, sc, e, own_below o hb⟩
end Go.Proofs.Ytphkaambodecdaa
