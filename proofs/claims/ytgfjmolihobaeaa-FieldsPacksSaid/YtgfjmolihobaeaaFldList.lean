/- The contracts of the functions on lists of widths over this program: the program's areWidths, total, filled, the reference's all, bits. -/
import Derived.Test.YtgfjmolihobaeaaFldRef2
import Derived.OwnWalk
import Derived.ArgAppend
import Derived.BigQuiet
import Derived.Deep.QuietTactic
namespace Go.Proofs.Ytgfjmolihobaeaa
open Go.RowKit Go.Shelf
set_option linter.unusedVariables false

/-- The slice at a reads as the numbers zs. -/
def Reads (k : IntKind) (w : World) (a : Option Addr) (zs : List Int) : Prop := zs = [] ∨ ∃ b off, a = some ⟨b, off, none⟩ ∧ b < w.heap.size ∧ ∀ j, j < zs.length → w.cell? ⟨b, off + j, none⟩ = some (.int k (zs.getD j 0))
theorem Reads.below {k : IntKind} {w w' : World} {a : Option Addr} {zs : List Int} (h : Reads k w a zs) (hb : Below w.heap.size w w') : Reads k w' a zs := by
  rcases h with h | ⟨b, off, rfl, hl, hc⟩
  · exact .inl h
  · exact .inr ⟨b, off, rfl, Nat.lt_of_lt_of_le hl hb.size, fun j hj => (hb.cell (p := ⟨b, off + j, none⟩) hl).trans (hc j hj)⟩

namespace Fld
def allW (zs : List Int) : Bool := zs.all isW
def tot (ns : List Nat) : Nat := ns.sum
theorem allW_take_succ (zs : List Int) (k : Nat) (h : k < zs.length) : allW (zs.take (k + 1)) = (allW (zs.take k) && isW (zs.getD k 0)) := by
  unfold allW
  rw [List.take_succ_eq_append_getElem h, List.all_append]
  simp [List.getD, List.getElem?_eq_getElem h]
theorem allW_false (zs : List Int) (k : Nat) (h : k < zs.length) (e : isW (zs.getD k 0) = false) : allW zs = false := by
  unfold allW
  rw [List.all_eq_false]
  refine ⟨zs.getD k 0, ?_, by rw [e]; decide⟩
  simp [List.getD, List.getElem?_eq_getElem h]
theorem tot_take_succ (ns : List Nat) (k : Nat) (h : k < ns.length) : tot (ns.take (k + 1)) = tot (ns.take k) + ns.getD k 0 := by
  unfold tot
  rw [List.take_succ_eq_append_getElem h, List.sum_append]
  simp [List.getD, List.getElem?_eq_getElem h]
theorem tot_le (ns : List Nat) (c : Nat) (h : ∀ j, j < ns.length → ns.getD j 0 ≤ c) : ∀ k, k ≤ ns.length → tot (ns.take k) ≤ k * c
  | 0, _ => by simp [tot]
  | k + 1, hk => by
    rw [tot_take_succ ns k hk]
    have := tot_le ns c h k (by omega)
    have := h k hk
    rw [Nat.add_mul]
    omega
end Fld

set_option maxHeartbeats 1000000 in
theorem areWidths_any (a : Option Addr) (cap : Nat) (zs : List Int) (hl : zs.length ≤ 600) (w : World) (h : Reads .i64 w a zs) :
    Calls Try.prog 39 #[.slice a zs.length cap] w fun e w' => e = .returned (.bool (Fld.allW zs)) ∧ w = w' := by
  rcases h with rfl | ⟨b, off, rfl, hlt, hc⟩
  · show Calls _ _ #[.slice a 0 cap] _ _
    go_enter Try.func39, Try.ntmps39
    go_wp2_with fail
    refine wp_loop_rounds 1 ?_
    rw [rounds_succ]
    go_wp2_with fail
    go_ret
    exact ⟨rfl, rfl⟩
  · obtain ⟨n, hn⟩ : ∃ n, zs.length = n := ⟨_, rfl⟩
    rw [hn] at hl hc ⊢
    have HC := Lib.hid hc
    have HN := Lib.hid hn
    have IW := Lib.hid (fun z w => isWidth_any z w)
    clear hc hn
    go_enter Try.func39, Try.ntmps39
    go_wp2_with fail
    go_loop [7] (fun i => ∃ k : Nat, k ≤ n ∧ i = .int .i64 k ∧ Fld.allW (zs.take k) = true) (fun i => n - (intOf i).toNat)
    case atStart => exact ⟨0, Nat.zero_le _, rfl, rfl⟩
    case round =>
      obtain ⟨k, hk, rfl, ha⟩ := hrel
      by_cases hlt2 : k < n
      · have hcell := HC.out k hlt2
        obtain ⟨z, hz⟩ : ∃ z, zs.getD k 0 = z := ⟨_, rfl⟩
        rw [hz] at hcell
        have S := Fld.allW_take_succ zs k (by have := HN.out; omega)
        rw [ha, hz] at S
        by_cases e : Fld.isW z = true
        · have SS := Lib.hid (S.trans (show (true && Fld.isW z) = true by rw [e]; rfl))
          have HZ := Lib.hid hz
          clear S hz ha
          go_wp2_with fail
          refine (IW.out _ _).mono ?_
          rintro e w' ⟨rfl, rfl⟩
          go_wp2_with fail
          go_round
          case rel => exact ⟨k + 1, by omega, by go_num, SS.out⟩
          case measure => simp [intOf]; omega
        · have e0 : Fld.isW z = false := by simpa using e
          have AF := Fld.allW_false zs k (by have := HN.out; omega) (by rw [hz]; exact e0)
          have AFF := Lib.hid AF
          clear S hz ha AF e
          go_wp2_with fail
          refine (IW.out _ _).mono ?_
          rintro e w' ⟨rfl, rfl⟩
          go_wp2_with fail
          go_ret
          exact ⟨by rw [AFF.out]; rfl, rfl⟩
      · obtain rfl : k = n := by omega
        have ha' : Fld.allW zs = true := by rw [← HN.out, List.take_length] at ha; exact ha
        have HA := Lib.hid ha'
        clear ha ha'
        go_wp2_with fail
        go_ret
        exact ⟨by rw [HA.out]; rfl, rfl⟩

set_option maxHeartbeats 1000000 in
theorem total_any (a : Option Addr) (cap : Nat) (ns : List Nat) (hl : ns.length ≤ 600) (hb : ∀ j, j < ns.length → ns.getD j 0 ≤ 64) (w : World) (h : Reads .i64 w a (ns.map Int.ofNat)) :
    Calls Try.prog 40 #[.slice a ns.length cap] w fun e w' => e = .returned (.int .i64 (Fld.tot ns : Nat)) ∧ w = w' := by
  rcases h with h0 | ⟨b, off, rfl, hlt, hc⟩
  · obtain rfl : ns = [] := by simpa using h0
    show Calls _ _ #[.slice a 0 cap] _ _
    go_enter Try.func40, Try.ntmps40
    go_wp2_with fail
    refine wp_loop_rounds 1 ?_
    rw [rounds_succ]
    go_wp2_with fail
    go_ret
    exact ⟨rfl, rfl⟩
  · have tl := Fld.tot_le ns 64 hb
    have cell : ∀ j, j < ns.length → w.cell? ⟨b, off + j, none⟩ = some (.int .i64 (ns.getD j 0 : Nat)) := fun j hj => by
      have := hc j (by simpa using hj)
      rw [this]
      simp [List.getD, List.getElem?_eq_getElem hj]
    obtain ⟨n, hn⟩ : ∃ n, ns.length = n := ⟨_, rfl⟩
    have st := Fld.tot_take_succ ns
    rw [hn] at hl cell hb tl st ⊢
    have HC := Lib.hid cell
    have HN := Lib.hid hn
    have TL := Lib.hid tl
    have HB := Lib.hid hb
    have ST := Lib.hid st
    clear hc hn tl hb cell st
    go_enter Try.func40, Try.ntmps40
    go_wp2_with fail
    go_loop [3, 8] (fun t i => ∃ k : Nat, k ≤ n ∧ i = .int .i64 k ∧ t = .int .i64 (Fld.tot (ns.take k) : Nat)) (fun _ i => n - (intOf i).toNat)
    case atStart => exact ⟨0, Nat.zero_le _, rfl, rfl⟩
    case round =>
      obtain ⟨k, hk, rfl, rfl⟩ := hrel
      by_cases hlt2 : k < n
      · have hcell := HC.out k hlt2
        have S := ST.out k hlt2
        have t1 := TL.out k hk
        have t2 := HB.out k hlt2
        obtain ⟨z, hz⟩ : ∃ z, ns.getD k 0 = z := ⟨_, rfl⟩
        rw [hz] at hcell S t2
        obtain ⟨t, ht⟩ : ∃ t, Fld.tot (ns.take k) = t := ⟨_, rfl⟩
        rw [ht] at S t1 ⊢
        have SS := Lib.hid S
        have t3 : t ≤ 40000 := by omega
        clear S hz ht t1
        go_wp2_with fail
        go_round
        case rel => exact ⟨k + 1, by omega, by go_num, by rw [SS.out]; go_num⟩
        case measure => simp [intOf]; omega
      · obtain rfl : k = n := by omega
        have e : ns.take k = ns := by rw [← HN.out, List.take_length]
        rw [e]
        clear e
        go_wp2_with fail
        go_ret
        exact ⟨rfl, rfl⟩

namespace Fld
def fill (ns : List Nat) : List Nat := if tot ns % 8 = 0 then ns else ns ++ [8 - tot ns % 8]
theorem fill_tot (ns : List Nat) : tot (fill ns) % 8 = 0 ∧ tot ns ≤ tot (fill ns) ∧ tot (fill ns) ≤ tot ns + 7 := by
  unfold fill
  split
  · omega
  · have : tot (ns ++ [8 - tot ns % 8]) = tot ns + (8 - tot ns % 8) := by unfold tot; simp
    omega
theorem fill_length (ns : List Nat) : (fill ns).length ≤ ns.length + 1 := by
  unfold fill
  split <;> simp
theorem fill_le (ns : List Nat) (h : ∀ j, j < ns.length → ns.getD j 0 ≤ 64) : ∀ j, j < (fill ns).length → (fill ns).getD j 0 ≤ 64 := by
  unfold fill
  split
  · exact h
  · intro j hj
    by_cases e : j < ns.length
    · have := h j e
      simpa [List.getD, List.getElem?_append_left e] using this
    · have : j = ns.length := by simp at hj; omega
      subst this
      simp [List.getD]
      omega
end Fld
theorem info_int : (Try.prog.info? 3).map (fun i => (i.zero, i.size, i.bytes)) = some (some (.int .i64 0), 1, 8) := by kernel_rfl

/-- What filled returns. -/
def Filled (ns : List Nat) (w : World) (e : Ending) (w' : World) : Prop := ∃ a' cap', e = .returned (.slice a' (Fld.fill ns).length cap') ∧ (Fld.fill ns).length ≤ cap' ∧ Reads .i64 w' a' ((Fld.fill ns).map Int.ofNat) ∧ Below w.heap.size w w'

theorem getD_ofNat (ns : List Nat) (j : Nat) (h : j < ns.length) : (ns.map Int.ofNat).getD j 0 = (ns.getD j 0 : Nat) := by
  simp [List.getD, List.getElem?_eq_getElem h]

theorem reads_own {k : IntKind} {w : World} {base e : Nat} {a : Option Addr} {n cap : Nat} {zs : List Int} (h : w.ownsRow base e 1 (.slice a n cap) n (zs.map (Value.int k))) : Reads k w a zs ∧ n = zs.length ∧ n ≤ cap := by
  obtain ⟨hl, h⟩ := h
  have hn : n = zs.length := by simpa using hl.symm
  rcases h with ⟨hv, h0⟩ | ⟨g, c, cur, hv, hb, hg, hnc, hm, hsz, ht⟩
  · simp only [Value.slice.injEq] at hv
    exact ⟨.inl (List.eq_nil_of_length_eq_zero (by omega)), hn, by omega⟩
  · simp only [Value.slice.injEq] at hv
    obtain ⟨rfl, _, rfl⟩ := hv
    refine ⟨.inr ⟨g, 0, rfl, (Array.getElem?_eq_some_iff.1 hg).1, fun j hj => ?_⟩, hn, hnc⟩
    have e1 : w.cell? ⟨g, 0 + j, none⟩ = cur[j]? := by
      unfold World.cell?
      rw [hg]
      simp
    have e2 : (cur.toList.take (n * 1))[j]? = cur[j]? := by
      rw [List.getElem?_take_of_lt (by omega)]
      simp
    rw [e1, ← e2, ht, List.getElem?_map]
    simp [List.getD, List.getElem?_eq_getElem hj]

theorem add_addr (b off j : Nat) : (⟨b, off, none⟩ : Addr).add j = ⟨b, off + j, none⟩ := by unfold Addr.add; split <;> simp_all
theorem cells_add {k : IntKind} {w : World} {b off : Nat} {zs : List Int} (hc : ∀ j, j < zs.length → w.cell? ⟨b, off + j, none⟩ = some (.int k (zs.getD j 0))) :
    ∀ b', some (⟨b, off, none⟩ : Addr) = some b' → ∀ j u, (zs.map (Value.int k))[j]? = some u → w.cell? (b'.add j) = some u := by
  intro b' e j u hu
  cases e
  have hj : j < zs.length := by
    have := (List.getElem?_eq_some_iff.1 hu).1
    simpa using this
  rw [add_addr, hc j hj]
  rw [List.getElem?_map, List.getElem?_eq_getElem hj] at hu
  simp [List.getD, List.getElem?_eq_getElem hj]
  simpa using hu
theorem cell_one {w : World} {v : Value} {t : TypeId} : ∀ j u, [v][j]? = some u → (w.alloc (.cells #[v] t)).cell? ((⟨w.heap.size, 0, none⟩ : Addr).add j) = some u := by
  intro j u hu
  have hj : j < 1 := by
    have := (List.getElem?_eq_some_iff.1 hu).1
    simpa using this
  obtain rfl : j = 0 := by omega
  rw [add_addr]
  have := (cell_new_l w v t).1
  simp at hu
  subst hu
  exact this
theorem own_slice {w : World} {base e n : Nat} {v : Value} {xs : List Value} (h : w.ownsRow base e 1 v n xs) : ∃ a cap, v = .slice a n cap := by
  rcases h.2 with ⟨rfl, rfl⟩ | ⟨g, c, _, rfl, _⟩
  · exact ⟨none, 0, rfl⟩
  · exact ⟨_, c, rfl⟩

set_option maxHeartbeats 1000000 in
theorem filled_any (a : Option Addr) (cap : Nat) (ns : List Nat) (hl : ns.length ≤ 599) (hcap : ns.length ≤ cap) (hcm : cap ≤ 9223372036854775807) (hb : ∀ j, j < ns.length → ns.getD j 0 ≤ 64) (w : World) (h : Reads .i64 w a (ns.map Int.ofNat)) :
    Calls Try.prog 41 #[.slice a ns.length cap] w (Filled ns w) := by
  have T := Lib.hid (total_any a cap ns (by omega) hb w h)
  by_cases c : Fld.tot ns % 8 = 0
  · have e : Fld.fill ns = ns := if_pos c
    have R : Filled ns w (.returned (.slice a ns.length cap)) w := by
      refine ⟨a, cap, by rw [e], by rw [e]; exact hcap, by rw [e]; exact h, Below.refl _ _⟩
    have RR := Lib.hid R
    have tb := Fld.tot_le ns 64 hb ns.length (Nat.le_refl _)
    rw [List.take_length] at tb
    obtain ⟨t, ht⟩ : ∃ t, Fld.tot ns = t := ⟨_, rfl⟩
    rw [ht] at T c tb
    have c' : (t : Int) % 8 = 0 := by omega
    have t1 : t ≤ 40000 := by omega
    clear h e R hb ht tb
    go_enter Try.func41, Try.ntmps41
    go_wp2_with fail
    refine T.out.mono ?_
    rintro e w' ⟨rfl, rfl⟩
    go_wp2_with fail
    go_ret
    exact RR.out
  · have e : Fld.fill ns = ns ++ [8 - Fld.tot ns % 8] := if_neg c
    have tb := Fld.tot_le ns 64 hb ns.length (Nat.le_refl _)
    rw [List.take_length] at tb
    rcases h with h0 | ⟨b, off, rfl, hlt, hc⟩
    · obtain rfl : ns = [] := by simpa using h0
      exact absurd rfl c
    · obtain ⟨t, ht⟩ : ∃ t, Fld.tot ns = t := ⟨_, rfl⟩
      rw [ht] at T c tb e
      obtain ⟨r, hr⟩ : ∃ r, t % 8 = r := ⟨_, rfl⟩
      rw [hr] at c e
      have r1 : (t : Int) % 8 = (r : Int) := by omega
      have r2 : ((r : Int) == 0) = false := by simp; omega
      have r3 : r < 8 := by omega
      have t1 : t ≤ 40000 := by omega
      obtain ⟨n, hn⟩ : ∃ n, ns.length = n := ⟨_, rfl⟩
      have HE := Lib.hid e
      have HN := Lib.hid hn
      have HC := Lib.hid hc
      rw [hn] at T hl hcap ⊢
      clear hc hb ht hr c e hn tb
      go_enter Try.func41, Try.ntmps41
      go_wp2_with fail
      refine T.out.mono ?_
      rintro e w' ⟨rfl, rfl⟩
      obtain ⟨i0, hi, hz0, hz1, hz2⟩ := info_parts info_int
      have OC := Lib.hid (cells_add (k := .i64) (w := w.alloc (.cells #[.int .i64 (8 - (r : Int))] 3)) (b := b) (off := off) (zs := ns.map Int.ofNat) (fun j hj => (World.cell?_alloc_lt (h := hlt) ..).trans (HC.out j hj)))
      have HL := Lib.hid (show ((ns.map Int.ofNat).map (Value.int .i64)).length = n * 1 by simp [HN.out])
      have BB := Lib.hid (((Below.refl w.heap.size w).alloc (Nat.le_refl _) (.cells #[.int .i64 (8 - (r : Int))] 3)))
      go_wp2_with (at_builtin; refine wpList_append_grows _ rfl _ _ 36 rfl 3 i0 (.int .i64 0) 1 8 Try.underlying36 hi hz0 hz1 hz2 rfl (by decide) (some ⟨b, off, none⟩) n n ((ns.map Int.ofNat).map (Value.int .i64)) rfl (fun h => by cases h) HL.out OC.out ⟨w.heap.size, 0, none⟩ 1 1 [.int .i64 (8 - (r : Int))] rfl rfl cell_one (by simp [Value.oneCell']) (by omega) (by unfold maxLen; omega) (by omega) ?_; intro v' w' hown hgrow)
      go_ret
      obtain ⟨a', cap', rfl⟩ := own_slice hown
      have e1 : (ns.map Int.ofNat).map (Value.int .i64) ++ [.int .i64 (8 - (r : Int))] = ((Fld.fill ns).map Int.ofNat).map (Value.int .i64) := by
        rw [HE.out, List.map_append, List.map_append]
        have : (8 - (r : Int)) = Int.ofNat (8 - r) := by show _ = ((8 - r : Nat) : Int); omega
        rw [this]
        rfl
      rw [e1] at hown
      obtain ⟨q1, q2, q3⟩ := reads_own hown
      have q4 : n + 1 = (Fld.fill ns).length := by rw [HE.out]; simp [HN.out]
      exact ⟨a', cap', by rw [← q4]; rfl, by omega, q1, BB.out.trans ((Below.refl _ _).grown hgrow (by simp) (fun k e => by cases e))⟩
end Go.Proofs.Ytgfjmolihobaeaa
