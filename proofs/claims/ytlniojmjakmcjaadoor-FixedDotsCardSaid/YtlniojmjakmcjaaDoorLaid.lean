/- What the tied table of coefficients gives the walks, and small facts for the rows' last steps. -/
import Derived.Test.YtlniojmjakmcjaaDoorRows
import Derived.Test.YtlniojmjakmcjaaDoorAwake
import Derived.ProofKit
import Derived.LaidMore
import Derived.OpenShut
import Derived.Stop.Joined
import Derived.ChangeSame
namespace Go.Proofs.YtlniojmjakmcjaaDoor
open Go.ChangeShapes Go.WideShapes Go.ChangeAt Go.RowKit
set_option linter.unusedVariables false

theorem own : ownKnob Tryd.prog.godebug = none := by kernel_rfl
theorem gSer : Tryd.prog.globalNamed "perigee/fixed.series" = some 2 := by kernel_rfl
theorem tSer : (Tryd.prog.globals[2]?).map (·.type) = some 68 := by kernel_rfl
theorem uSer : Tryd.prog.underlying 68 = some (.array 2 67) := by kernel_rfl
theorem uRow : Tryd.prog.underlying 67 = some (.array 6 2) := by kernel_rfl
theorem uI64 : Tryd.prog.underlying 2 = some (.int .i64) := by kernel_rfl
theorem uBool : Tryd.prog.underlying 4 = some .bool := by kernel_rfl
theorem cRow : Tryd.prog.cellsOf 67 = 6 := by kernel_rfl
theorem cI64 : Tryd.prog.cellsOf 2 = 1 := by kernel_rfl

/-- The cells of an array of integers, by its datum. -/
theorem arr_int {H : Type} {enc : TypeId × Value → H} {P : Program} {w : World} {base : Nat} {sp : Nat → Bool} {held : Bool} {fuel : Nat} {t e : TypeId} {n : Nat} {k : IntKind} {cs : List Value} {x : DataW H × List MemPlace} {zs : List Int}
    (ht : P.underlying t = some (.array n e)) (he : P.underlying e = some (.int k)) (hc : P.cellsOf e = 1) (h : DataW.trod enc P w base sp held fuel t cs = some x) (hx : x.1 = .agg (zs.map fun z => .lit (.int k z))) :
    ∀ i, i < zs.length → cs[i]? = some (.int k (zs.getD i 0)) := by
  obtain ⟨xs, m, rfl, rfl, hl, hn, hel⟩ := DataW.trod_array ht h
  simp only [DataW.agg.injEq] at hx
  intro i hi
  have hlen : xs.length = zs.length := by simpa using congrArg List.length hx
  have hi' : i < xs.length := by omega
  have h1 := hel i (by omega)
  rw [List.getElem?_eq_getElem hi', hc] at h1
  obtain ⟨z, e1, e2, _⟩ := DataW.trod_int he h1
  have e3 : (xs.map (·.1))[i]? = (zs.map fun z => (DataW.lit (.int k z) : DataW H))[i]? := by rw [hx]
  rw [List.getElem?_map, List.getElem?_map, List.getElem?_eq_getElem hi', List.getElem?_eq_getElem hi, e2] at e3
  simp at e3
  have e4 : cs[i]? = (cs.drop (i * 1)).head? := by simp [List.head?_drop]
  rw [e4]
  have e5 : (cs.drop (i * 1)).head? = ((cs.drop (i * 1)).take 1).head? := by cases cs.drop (i * 1) <;> simp
  rw [e5, e1, e3]
  simp [List.getD, List.getElem?_eq_getElem hi]

theorem ser_of {W : World} (h : laidMetH Tryd.prog [("perigee/fixed.series", Rows.laid_perigee_fixed_series)] W) : Ser W := by
  rw [MakeChecks.laidMetH_plain _ _ _ (by kernel_rfl)] at h
  obtain ⟨ps, ⟨g, t, cs, fuel, p, q, hg, ht, hvar, hd, _, _⟩, _⟩ := h
  obtain rfl := Option.some.inj (gSer.symm.trans hg)
  obtain rfl := Option.some.inj (tSer.symm.trans ht)
  obtain ⟨xs, m, rfl, hx, hl, hn, hel⟩ := DataW.trod_array uSer hd
  simp only [Prod.mk.injEq, Rows.laid_perigee_fixed_series, DataW.agg.injEq] at hx
  match xs, hn, hx, hel with
  | [x0, x1], _, hx, hel =>
    simp only [List.map_cons, List.map_nil, List.cons.injEq] at hx
    obtain ⟨⟨h0, h1, _⟩, _⟩ := hx
    have e0 := hel 0 (by omega)
    have e1 := hel 1 (by omega)
    rw [cRow] at e0 e1
    have a0 := arr_int (zs := [27, 2959, 213044, 8947849, 178956971, 1073741824]) uRow uI64 cI64 e0 h0.symm
    have a1 := arr_int (zs := [296, 26631, 1491308, 44739243, 536870912, 1073741824]) uRow uI64 cI64 e1 h1.symm
    have c : ∀ i, W.cell? ⟨2, i, none⟩ = cs[i]? := fun i => World.var?_cell hg hvar i
    have q0 : ∀ i (h : i < 6), cs[i]? = some (.int .i64 ([27, 2959, 213044, 8947849, 178956971, 1073741824].getD i 0)) := fun i h => by
      have := a0 i h
      rw [List.getElem?_take_of_lt h] at this
      simpa using this
    have q1 : ∀ i (h : i < 6), cs[6 + i]? = some (.int .i64 ([296, 26631, 1491308, 44739243, 536870912, 1073741824].getD i 0)) := fun i h => by
      have := a1 i h
      rw [List.getElem?_take_of_lt h, List.getElem?_drop] at this
      simpa using this
    exact ⟨(c 0).trans (q0 0 (by omega)), (c 1).trans (q0 1 (by omega)), (c 2).trans (q0 2 (by omega)), (c 3).trans (q0 3 (by omega)), (c 4).trans (q0 4 (by omega)), (c 5).trans (q0 5 (by omega)),
      (c 6).trans (q1 0 (by omega)), (c 7).trans (q1 1 (by omega)), (c 8).trans (q1 2 (by omega)), (c 9).trans (q1 3 (by omega)), (c 10).trans (q1 4 (by omega)), (c 11).trans (q1 5 (by omega))⟩

/-- The door's own heap meets the condition: closed facts. -/
theorem door_met (os : Os) (args : Array Value) : laidMetH Tryd.prog [("perigee/fixed.series", Rows.laid_perigee_fixed_series)] ((World.doorLaid Tryd.prog 400 os).forCall (fun _ _ => 0) ⟨#[], args, []⟩).memory :=
  laidMetH_of_parts3 (fuel := 8) (laidMet_of_run' 8 (by kernel_rfl) (by kernel_rfl)) (by kernel_rfl) (by kernel_rfl)

section
variable {H : Type} {enc : TypeId × Value → H} {P : Program}
/-- The row's last step where all that is known of the new world is that nothing old has changed. -/
theorem post_of_below {f : Func} {s : ChangeSpec} {apart fresh handsOn again : Bool} {W W' : World} {args : Array Value} {v : Value} {ds gs : List (DataW H)} {before pa pv : List MemPlace}
    (hW : DataW.Whole enc P f.params.toList s.vars apart W args.toList ds gs before)
    (hres : ∀ (b : Nat) (sp : Nat → Bool) (hd : Bool), DataW.TrodAll enc P W' b sp hd f.resultTypes.toList (v.resultList f.resultTypes.size) (s.fn H (ds ++ gs)).results [])
    (hargs : ∀ sp : Nat → Bool, (∀ p ∈ before, sp p.block = true) → DataW.TrodAll enc P W' 0 sp true f.params.toList args.toList (s.fn H (ds ++ gs)).args pa)
    (hvars : ∀ sp : Nat → Bool, (∀ p ∈ before, sp p.block = true) → DataW.TrodVars enc P W' sp s.vars (s.fn H (ds ++ gs)).vars pv)
    (hps : before = pa ++ pv) (hb : Below W.heap.size W W')
    (hok : ∀ (j : Nat) (t : TypeId) (r : Value), f.resultTypes[j]? = some t → (v.resultList f.resultTypes.size)[j]? = some r → Value.okWide P W' .any 0 t r) :
    s.post enc P f apart fresh handsOn again W args v W' := by
  have hlt : ∀ p ∈ before, p.block < W.heap.size := fun p hp => hW.lt p hp
  have hold : ∀ p ∈ before, (fun b => decide (b < W.heap.size)) p.block = true := fun p hp => by simpa using hlt p hp
  refine ⟨ds, gs, before, [], pa, pv, hW, hres _ _ _, hargs _ hold, hvars _ hold, World.keptBut_mono (fun p hp => ⟨hp, ?_⟩) (hb.frame (· ∈ before)), fun _ => ?_⟩
  · rw [hps, List.mem_append] at hp
    exact Or.inr hp
  · obtain ⟨_, _, _, _, _, hz, hn⟩ := hW
    refine ⟨hok, _, _, ([] ++ pa) ++ pv, ⟨[] ++ pa, pv, trodAll_append (hargs _ (fun _ _ => rfl)) (hres _ _ _), hvars _ (fun _ _ => rfl), rfl, ?_, ?_⟩, ?_⟩
    · intro b off hp
      have hin : MemPlace.cell b off ∈ before := by rw [hps]; simpa using hp
      rw [hb.frozen (hlt _ hin)]
      exact hz b off hin
    · intro ha
      have := hn ha
      rw [hps] at this
      simpa using this
    · intro p hp _
      rw [hps]
      simpa using hp
end
end Go.Proofs.YtlniojmjakmcjaaDoor
