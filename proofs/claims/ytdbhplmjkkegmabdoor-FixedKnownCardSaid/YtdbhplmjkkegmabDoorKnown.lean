/- FixedKnown: the examples of the document for layer 1 hold in this program. The condition: the package's table of coefficients starts as the program's text lays it (tied by the card). -/
import Derived.Test.YtdbhplmjkkegmabDoorLaid
import Derived.Test.YtdbhplmjkkegmabDoorCards
import Derived.Test.YtdbhplmjkkegmabDoorTie
namespace Go.Proofs.YtdbhplmjkkegmabDoor
open Go.ChangeShapes Go.WideShapes Go.ChangeAt Go.RowKit
set_option linter.unusedVariables false

theorem bt {w a b : World} (h : Below w.heap.size w a) (k : Below a.heap.size a b) : Below w.heap.size w b := h.trans (k.mono h.size)
theorem ba {w a : World} (h : Below w.heap.size w a) (o : Obj) : Below w.heap.size w (a.alloc o) := h.alloc h.size o
theorem ofDraw {f : FuncId} {args : Array Value} {w : World} {v : Value} (h : Calls Tryd.prog f args w fun e w' => e = .returned v ∧ ∃ n, w' = w.drewN n) : Calls Tryd.prog f args w fun e w' => e = .returned v ∧ Below w.heap.size w w' :=
  h.mono fun e w' ⟨he, n, hw⟩ => ⟨he, by rw [hw]; exact below_drewN (Below.refl _ _) n⟩
theorem ofSame {f : FuncId} {args : Array Value} {w : World} {v : Value} (h : Calls Tryd.prog f args w fun e w' => e = .returned v ∧ w = w') : Calls Tryd.prog f args w fun e w' => e = .returned v ∧ Below w.heap.size w w' :=
  h.mono fun e w' ⟨he, hw⟩ => ⟨he, by rw [← hw]; exact Below.refl _ _⟩

theorem cosK (t : Nat) (v : Int) (ht : t < 4294967296) (hv : cosV t = v) (w : World) (hs : Ser w) :
    Calls Tryd.prog 6 #[.int .u32 t] w fun e w' => e = .returned (.int .i64 v) ∧ ∃ n, w' = w.drewN n := by rw [← hv]; exact cos_any t ht w hs
theorem sqrtK (a v x : Int) (ha : Fix.fits a) (hv : sqrtV a = v) (hx : sqrtE a = x) (w : World) :
    Calls Tryd.prog 12 #[.int .i64 a] w fun e w' => e = .returned (.tuple #[.int .i64 v, .int .i64 x]) ∧ w = w' := by rw [← hv, ← hx]; exact sqrt_any a ha w
theorem sqrtOne : sqrtV 1073741824 = 1073741824 ∧ sqrtE 1073741824 = 0 := by
  have s : Fix.sq 1152921504606846976 = 1073741824 := Fix.sq_of (by decide) (by decide)
  refine ⟨?_, rfl⟩
  show (if (1073741824 : Int) < 0 then 0 else ((Fix.sq 1152921504606846976 : Nat) : Int)) = 1073741824
  rw [if_neg (by decide), s]; rfl
theorem sqrtTwo : sqrtV 2 = 46340 ∧ sqrtE 2 = 0 := by
  have s : Fix.sq 2147483648 = 46340 := Fix.sq_of (by decide) (by decide)
  refine ⟨?_, rfl⟩
  show (if (2 : Int) < 0 then 0 else ((Fix.sq 2147483648 : Nat) : Int)) = 46340
  rw [if_neg (by decide), s]; rfl
theorem hypFar : Fix.hypE [4611686018427387904, 4611686018427387904, 4611686018427387904, 4611686018427387904] = 7 := by
  have e : Fix.sumsq [4611686018427387904, 4611686018427387904, 4611686018427387904, 4611686018427387904] = 85070591730234615865843651857942052864 := by decide
  unfold Fix.hypE
  rw [e]
  unfold Fix.big
  simp
theorem dotFive : Fix.dotV [1073741824, 2] [3, 1073741824] = 5 := by decide
theorem dotBad : Fix.dotE [1] [] = 2 := by decide

set_option maxRecDepth 100000 in
set_option maxHeartbeats 4000000 in
theorem known_walk (w : World) (hs : Ser w) : Calls Tryd.prog 4 #[] w fun e w' => e = .returned (.bool true) ∧ Below w.heap.size w w' := by
  have A1 := Lib.hid (fun w => mulK 1073741824 5 5 ⟨by omega, by omega⟩ ⟨by omega, by omega⟩ (by decide) w)
  have A2 := Lib.hid (fun w => mulK 1 536870912 1 ⟨by omega, by omega⟩ ⟨by omega, by omega⟩ (by decide) w)
  have A3 := Lib.hid (fun w => mulK (-1) 536870912 0 ⟨by omega, by omega⟩ ⟨by omega, by omega⟩ (by decide) w)
  have A4 := Lib.hid (fun w => divK (-1) 2147483648 0 _ ⟨by omega, by omega⟩ ⟨by omega, by omega⟩ (by decide) rfl w)
  have A5 := Lib.hid (fun w => divK 5 0 _ 2 ⟨by omega, by omega⟩ ⟨by omega, by omega⟩ rfl (by decide) w)
  have A6 := Lib.hid (fun w => ratioK 7 3 2 11 _ ⟨by omega, by omega⟩ ⟨by omega, by omega⟩ ⟨by omega, by omega⟩ (by decide) rfl w)
  have A7 := Lib.hid (fun w => ratioK (-7) 3 2 (-10) _ ⟨by omega, by omega⟩ ⟨by omega, by omega⟩ ⟨by omega, by omega⟩ (by decide) rfl w)
  have A8 := Lib.hid (fun w => ratioK 4611686018427387904 2 1 _ 7 ⟨by omega, by omega⟩ ⟨by omega, by omega⟩ ⟨by omega, by omega⟩ rfl (by decide) w)
  have A9 := Lib.hid (fun w => sqrtK 1073741824 1073741824 0 ⟨by omega, by omega⟩ sqrtOne.1 sqrtOne.2 w)
  have A10 := Lib.hid (fun w => sqrtK 2 46340 0 ⟨by omega, by omega⟩ sqrtTwo.1 sqrtTwo.2 w)
  have A11 := Lib.hid (fun b w h => hypot_any (some ⟨b, 0, none⟩) 4 4 [4611686018427387904, 4611686018427387904, 4611686018427387904, 4611686018427387904] w h (fun k hk => by
    match k, hk with
    | 0, _ => exact ⟨by simp, by simp⟩
    | 1, _ => exact ⟨by simp, by simp⟩
    | 2, _ => exact ⟨by simp, by simp⟩
    | 3, _ => exact ⟨by simp, by simp⟩))
  rw [hypFar] at A11
  have A12 := Lib.hid (fun b c w h g => dot_any (some ⟨b, 0, none⟩) (some ⟨c, 0, none⟩) 2 2 2 2 [1073741824, 2] [3, 1073741824] w h g (fun k hk => by
    match k, hk with
    | 0, _ => exact ⟨by simp, by simp⟩
    | 1, _ => exact ⟨by simp, by simp⟩) (fun k hk => by
    match k, hk with
    | 0, _ => exact ⟨by simp, by simp⟩
    | 1, _ => exact ⟨by simp, by simp⟩))
  rw [dotFive] at A12
  have A13 := Lib.hid (fun b w h g => dot_any (some ⟨b, 0, none⟩) none 1 0 1 0 [1] [] w h g (fun k hk => by
    match k, hk with
    | 0, _ => exact ⟨by simp, by simp⟩) (fun k hk => by omega))
  rw [dotBad] at A13
  have A14 := Lib.hid (fun w => sqrtK (-1) 0 2 ⟨by omega, by omega⟩ rfl rfl w)
  have A15 := Lib.hid (fun w => clamp_any 5 1 3 w)
  rw [show min (max (5 : Int) 1) 3 = 3 from by decide] at A15
  have A16 := Lib.hid (fun w => clamp_any 5 3 1 w)
  rw [show min (max (5 : Int) 3) 1 = 1 from by decide] at A16
  have A17 : Hid (∀ w, Ser w → Calls Tryd.prog 5 #[.int .u32 0] w fun e w' => e = .returned (.int .i64 0) ∧ ∃ n, w' = w.drewN n) := Lib.hid (fun w hs => sinK 0 0 (by decide) (by decide +kernel) w hs)
  have A18 : Hid (∀ w, Ser w → Calls Tryd.prog 5 #[.int .u32 2147483648] w fun e w' => e = .returned (.int .i64 0) ∧ ∃ n, w' = w.drewN n) := Lib.hid (fun w hs => sinK 2147483648 0 (by decide) (by decide +kernel) w hs)
  have A19 : Hid (∀ w, Ser w → Calls Tryd.prog 6 #[.int .u32 0] w fun e w' => e = .returned (.int .i64 1073741824) ∧ ∃ n, w' = w.drewN n) := Lib.hid (fun w hs => cosK 0 1073741824 (by decide) (by decide +kernel) w hs)
  have A20 : Hid (∀ w, Ser w → Calls Tryd.prog 6 #[.int .u32 2147483648] w fun e w' => e = .returned (.int .i64 (-1073741824)) ∧ ∃ n, w' = w.drewN n) := Lib.hid (fun w hs => cosK 2147483648 (-1073741824) (by decide) (by decide +kernel) w hs)
  have HS := Lib.hid hs
  clear hs
  have B := Below.refl w.heap.size w
  go_enter Tryd.func4, Tryd.ntmps4
  go_wp2_with fail
  refine (ofDraw (A1.out _)).mono ?_
  rintro e w1 ⟨rfl, h⟩
  replace B := bt B h
  clear h
  go_wp2_with fail
  refine (ofDraw (A2.out _)).mono ?_
  rintro e w2 ⟨rfl, h⟩
  replace B := bt B h
  clear h
  go_wp2_with fail
  refine (ofDraw (A3.out _)).mono ?_
  rintro e w3 ⟨rfl, h⟩
  replace B := bt B h
  clear h
  go_wp2_with fail
  refine (ofDraw (A4.out _)).mono ?_
  rintro e w4 ⟨rfl, h⟩
  replace B := bt B h
  clear h
  go_wp2_with fail
  refine (ofDraw (A5.out _)).mono ?_
  rintro e w5 ⟨rfl, h⟩
  replace B := bt B h
  clear h
  go_wp2_with fail
  refine (ofDraw (A6.out _)).mono ?_
  rintro e w6 ⟨rfl, h⟩
  replace B := bt B h
  clear h
  go_wp2_with fail
  refine (ofDraw (A7.out _)).mono ?_
  rintro e w7 ⟨rfl, h⟩
  replace B := bt B h
  clear h
  go_wp2_with fail
  refine (ofDraw (A8.out _)).mono ?_
  rintro e w8 ⟨rfl, h⟩
  replace B := bt B h
  clear h
  go_wp2_with fail
  refine (ofSame (A9.out _)).mono ?_
  rintro e w9 ⟨rfl, h⟩
  replace B := bt B h
  clear h
  go_wp2_with fail
  refine (ofSame (A10.out _)).mono ?_
  rintro e w10 ⟨rfl, h⟩
  replace B := bt B h
  clear h
  go_wp2_with fail
  refine (ofSame (A11.out w10.heap.size _ ?_)).mono ?_
  · exact ⟨rfl, by omega, Or.inr ⟨_, 0, rfl, fun k hk => by
      match k, hk with
      | 0, _ => simp [go_sem]
      | 1, _ => simp [go_sem]
      | 2, _ => simp [go_sem]
      | 3, _ => simp [go_sem]
  ⟩⟩
  rintro e w11 ⟨rfl, h⟩
  replace B := bt (ba B _) h
  clear h
  go_wp2_with fail
  refine (id (A12.out w11.heap.size (w11.heap.size + 1) _ ?_ ?_)).mono ?_
  · exact ⟨rfl, by omega, Or.inr ⟨_, 0, rfl, fun k hk => by
      match k, hk with
      | 0, _ => simp [go_sem]
      | 1, _ => simp [go_sem]
  ⟩⟩
  · exact ⟨rfl, by omega, Or.inr ⟨_, 0, rfl, fun k hk => by
      match k, hk with
      | 0, _ => simp [go_sem]
      | 1, _ => simp [go_sem]
  ⟩⟩
  rintro e w12 ⟨rfl, h⟩
  replace B := bt (ba (ba B _) _) h
  clear h
  go_wp2_with fail
  refine (id (A13.out w12.heap.size _ ?_ ?_)).mono ?_
  · exact ⟨rfl, by omega, Or.inr ⟨_, 0, rfl, fun k hk => by
      match k, hk with
      | 0, _ => simp [go_sem]
  ⟩⟩
  · exact ⟨rfl, by omega, Or.inl rfl⟩
  rintro e w13 ⟨rfl, h⟩
  replace B := bt (ba B _) h
  clear h
  go_wp2_with fail
  refine (ofSame (A14.out _)).mono ?_
  rintro e w14 ⟨rfl, h⟩
  replace B := bt B h
  clear h
  go_wp2_with fail
  refine (ofSame (A15.out _)).mono ?_
  rintro e w15 ⟨rfl, h⟩
  replace B := bt B h
  clear h
  go_wp2_with fail
  refine (ofSame (A16.out _)).mono ?_
  rintro e w16 ⟨rfl, h⟩
  replace B := bt B h
  clear h
  go_wp2_with fail
  refine (ofDraw (A17.out _ (HS.out.below B))).mono ?_
  rintro e w17 ⟨rfl, h⟩
  replace B := bt B h
  clear h
  go_wp2_with fail
  refine (ofDraw (A18.out _ (HS.out.below B))).mono ?_
  rintro e w18 ⟨rfl, h⟩
  replace B := bt B h
  clear h
  go_wp2_with fail
  refine (ofDraw (A19.out _ (HS.out.below B))).mono ?_
  rintro e w19 ⟨rfl, h⟩
  replace B := bt B h
  clear h
  go_wp2_with fail
  refine (ofDraw (A20.out _ (HS.out.below B))).mono ?_
  rintro e w20 ⟨rfl, h⟩
  replace B := bt B h
  clear h
  go_wp2_with fail
  refine (awake_any _ (HS.out.below B)).mono ?_
  rintro e w21 ⟨rfl, h⟩
  replace B := bt B h
  clear h
  go_wp2_with fail
  go_ret
  exact ⟨rfl, B⟩


namespace fixedKnown
set_option maxRecDepth 100000 in
theorem lifted (os : Os) (started : os.Started) (H : Type) (enc : TypeId × Value → H) :
    ReturnsInHanded {} Tryd.checked os 4 .any (fun w args => (Rows.fixedKnownSpec.pre enc Tryd.prog Tryd.f4 [] false w args ∧ laidMetH Tryd.prog [("perigee/fixed.series", Rows.laid_perigee_fixed_series)] w) ∧ sizedMet enc Tryd.prog Tryd.f4 (OpenSpec.ofChange Rows.fixedKnownSpec) false w args)
      (Rows.fixedKnownSpec.post enc Tryd.prog Tryd.f4 false true false false) := by
  refine returnsInHanded_of_change_and (C := Tryd.checked) (X := fun w _ => laidMetH Tryd.prog [("perigee/fixed.series", Rows.laid_perigee_fixed_series)] w) (fun _ _ _ hh h => h.of_heap hh) own started (by kernel_rfl) Tryd.func4
    (ChangeSpec.witness_shaped (enc := enc) (C := Tryd.checked) (os := os) (X := fun w _ => laidMetH Tryd.prog [("perigee/fixed.series", Rows.laid_perigee_fixed_series)] w) false (World.doorLaid Tryd.prog 400 os) #[] 8 rfl (World.shaped_of_RefB (by kernel_rfl) (by kernel_rfl)) (by kernel_rfl) (by kernel_rfl) (by kernel_rfl) (door_met os _)) ?_
  intro W base args ds gs before hval0 hW _ _ hL _
  have hval : ∀ (j : Nat) t v, Tryd.f4.params[j]? = some t → args[j]? = some v → Value.okWide Tryd.prog W .any base t v := hval0
  have hW' := hW
  obtain ⟨p, q, hA0, hV, rfl, hfz, hnd⟩ := hW
  have hA : DataW.TrodAll enc Tryd.prog W 0 (fun _ => true) true Tryd.f4.params.toList args.toList ds p := hA0
  rw [Tryd.params4] at hA hval
  obtain ⟨rfl, rfl, rfl⟩ := trodAll_none hA
  obtain ⟨rfl, rfl⟩ := trodVars_none hV
  clear hA0 hval0
  simp only [List.append_nil] at hW'
  refine (known_walk W (ser_of hL)).mono fun e W' ⟨he, hg⟩ => ?_
  subst he
  exact ⟨_, rfl, post_of_below (pa := []) (pv := []) hW' (fun _ _ _ => trodAll_cons_mk (shut_bool Tryd.underlying4 _) trodAll_mk0) (fun sp _ => rfl) (fun _ _ => rfl) rfl
    hg (ok_one (by kernel_rfl) rfl (okWide_bool_mk Tryd.underlying4 _))⟩

theorem over : Rows.FixedKnownSaid :=
  OpenClaim.holds_of_wide 4 Tryd.f4 rfl rfl rfl rfl rfl rfl rfl ⟨rfl, rfl, rfl, rfl, rfl⟩ rfl rfl rfl rfl rfl (by kernel_rfl) Tryd.func4 (by kernel_rfl)
    (of_decide_eq_true (by kernel_rfl)) (by unfold Func.isWrapper; first | (rw [if_pos (by decide +kernel)]; kernel_rfl) | (rw [if_neg (by decide +kernel)]; exact ⟨rfl, rfl⟩))
    (fun os started H enc _ => lifted os started H enc)

theorem proved : Rows.FixedKnownCardSaid :=
  Claim7.holds_tied_plain_at .later [] [.data] true Rows.fixedKnownCard.stood.harness false
    over (fun _ h => by cases h) (by kernel_rfl) (fun _ h => by cases h) fixedKnown_row_tie rfl ⟨rfl, rfl⟩ (by kernel_rfl) rfl
    (fun f fn hf hfn => by
      obtain rfl : f = 4 := Option.some.inj ((show Tryd.prog.funcNamed "perigee/perigeelaw01.FixedKnown" = some 4 by kernel_rfl).symm.trans hf) |>.symm
      obtain rfl : fn = Tryd.f4 := (Option.some.inj (Tryd.func4.symm.trans hfn)).symm
      exact ⟨by kernel_rfl, fun j t ht => by
        have hall : (Tryd.f4.params.toList.all fun u => !Tryd.prog.wantsStandIn u) = true := by kernel_rfl
        have hm : t ∈ Tryd.f4.params.toList := by simpa using Array.mem_of_getElem? ht
        exact (show Tryd.prog.wantsStandIn t = false by simpa using List.all_eq_true.1 hall t hm)⟩)
    (by kernel_rfl)
#print axioms proved
end fixedKnown
end Go.Proofs.YtdbhplmjkkegmabDoor
