/- The contract of perigeeref05's Decode over this program. -/
import Derived.Test.YtlpjhmafplljaaaGreatDoorPkL
import Derived.Test.YtlpjhmafplljaaaGreatDoorBlkTop
import Derived.Laws.AppendOwnNone
namespace Go.Proofs.YtlpjhmafplljaaaGreatDoor
open Go.RowKit
set_option linter.unusedVariables false

/-- Places as ints. -/
def il (f : List Nat) : List Int := f.map (fun (q : Nat) => (q : Int))
theorem il_mem (f : List Nat) (p : Nat) : ((p : Int) ∈ il f) ↔ p ∈ f := by
  unfold il
  rw [List.mem_map]
  constructor
  · rintro ⟨q, hq, e⟩
    obtain rfl : q = p := by omega
    exact hq
  · exact fun h => ⟨p, h, rfl⟩
theorem il_len (f : List Nat) : (il f).length = f.length := List.length_map _
theorem il_getD (f : List Nat) {k : Nat} (h : k < f.length) : (il f).getD k 0 = (f.getD k 0 : Nat) := by
  rw [getD_at _ (by rw [il_len]; exact h)]
  unfold il
  rw [List.getElem_map, List.getD_eq_getElem?_getD, List.getElem?_eq_getElem h, Option.getD_some]
/-- What is known of a slice that holds places. -/
structure Got (w : World) (a : Option Addr) (n c : Nat) (f : List Nat) : Prop where
  len : f.length = n
  cases : (a = none ∧ n = 0 ∧ c = 0) ∨ ∃ g, a = some ⟨g, 0, none⟩ ∧ g < w.heap.size ∧ ∀ k, k < n → w.cell? ⟨g, 0 + k, none⟩ = some (.int .i64 (f.getD k 0 : Nat))
theorem Got.below {w w' : World} {a : Option Addr} {n c : Nat} {f : List Nat} (h : Got w a n c f) (hb : Below w.heap.size w w') : Got w' a n c f := by
  refine ⟨h.len, ?_⟩
  rcases h.cases with q | ⟨g, rfl, hg, hc⟩
  · exact .inl q
  · exact .inr ⟨g, rfl, Nat.lt_of_lt_of_le hg hb.size, fun k hk => (hb.cell (p := ⟨g, 0 + k, none⟩) hg).trans (hc k hk)⟩
theorem Got.ints {w : World} {a : Option Addr} {n c : Nat} {f : List Nat} (h : Got w a n c f) : Ints w a (il f) := by
  have hl := h.len
  rcases h.cases with ⟨_, rfl, _⟩ | ⟨g, rfl, hg, hc⟩
  · exact .inl (List.eq_nil_of_length_eq_zero ((il_len f).trans hl))
  · exact .inr ⟨g, 0, rfl, hg, fun j hj => by
      rw [il_len] at hj
      rw [il_getD f hj]
      exact hc j (by omega)⟩
theorem Got.news {w : World} {g n c : Nat} {f : List Nat} (h : Got w (some ⟨g, 0, none⟩) n c f) : ∀ j u, (plv f)[j]? = some u → w.cell? ((⟨g, 0, none⟩ : Addr).add j) = some u := fun j u hu => by
  rcases h.cases with ⟨q, _⟩ | ⟨g', e, hg, hc⟩
  · cases q
  · obtain rfl : g = g' := by simpa using e
    have hj : j < f.length := by
      have := (List.getElem?_eq_some_iff.1 hu).1
      simpa [plv] using this
    have e2 : (⟨g, 0, none⟩ : Addr).add j = ⟨g, 0 + j, none⟩ := by unfold Addr.add; split <;> simp_all
    rw [e2, hc j (by rw [← h.len]; exact hj), ← hu]
    unfold plv
    rw [List.getElem?_map, List.getElem?_eq_getElem hj, Option.map_some, List.getD_eq_getElem?_getD, List.getElem?_eq_getElem hj, Option.getD_some]
theorem own_got {w : World} {base n : Nat} {v : Value} {f : List Nat} (hl : f.length = n) (h : w.ownsRow base 3 1 v n (plv f)) : ∃ a c, v = .slice a n c ∧ Got w a n c f := by
  rcases h.2 with ⟨rfl, h0⟩ | ⟨g, c, cur, rfl, _⟩
  · exact ⟨none, 0, by rw [h0], hl, .inl ⟨rfl, h0, rfl⟩⟩
  · subst hl
    obtain ⟨h1, h2⟩ := own_ints h
    exact ⟨_, c, rfl, rfl, .inr ⟨g, rfl, h1, fun k hk => by rw [Nat.zero_add]; exact h2 k hk⟩⟩
theorem plv_add (f : List Nat) (p : Nat) : plv (f ++ [p]) = plv f ++ [.int .i64 (p : Nat)] := by unfold plv; rw [List.map_append]; rfl
theorem rlocator_all (b : ByteArray) (a : Option Addr) (c : Nat) (l : List Nat) (k e L : Nat) (he : k + 2 * e ≤ 8) (hb : b.size = L) (hL : L ≤ 231) (hp : ∀ q, q ∈ l → q < L) (w : World) (G : Got w a k c l) :
    Calls Tryz.prog 31 #[.string b, .slice a k c, .int .i64 (e : Nat)] w (Located (twisted b.data.toList l) k e w) := by
  have hp' : ∀ i, i < k → l.getD i 0 < L := fun i hi => by
    rw [List.getD_eq_getElem?_getD, List.getElem?_eq_getElem (show i < l.length by rw [G.len]; exact hi), Option.getD_some]
    exact hp _ (List.getElem_mem _)
  rcases G.cases with ⟨rfl, h0, h1⟩ | ⟨g, rfl, hg, hc⟩
  · subst h1
    exact rlocator_none b 0 l k e L G.len he hb hL hp' w h0
  · exact rlocator_some b g 0 c l k e L G.len he hb hL hp' w (fun _ => hg) hc
theorem rmended_all (b : ByteArray) (a : Option Addr) (c : Nat) (l : List Nat) (n L : Nat) (h8 : n ≤ 8) (hb : b.size = L) (hL : L ≤ 231) (hp : ∀ q, q ∈ l → q < L) (w : World) (G : Got w a n c l) :
    Calls Tryz.prog 34 #[.string b, .slice a n c] w (Mended b.data.toList l w) := by
  have hp' : ∀ i, i < n → l.getD i 0 < L := fun i hi => by
    rw [List.getD_eq_getElem?_getD, List.getElem?_eq_getElem (show i < l.length by rw [G.len]; exact hi), Option.getD_some]
    exact hp _ (List.getElem_mem _)
  rcases Nat.eq_zero_or_pos n with h0 | h0
  · subst h0
    obtain rfl := List.eq_nil_of_length_eq_zero G.len
    refine (rmended_nil b a c L hb hL w).mono fun e w' h => ?_
    obtain ⟨rfl, hB⟩ := h
    have e1 : Gal.coefs (Blk.patch b.data.toList [] (fun _ => 0#8) 0) b.data.toList.length = b.data.toList := Gal.coefs_co _
    refine ⟨hB, .inl ⟨fun _ => 0#8, fun r hr => absurd hr (Nat.not_lt_zero _), fun z _ r hr => absurd hr (Nat.not_lt_zero _), ?_⟩⟩
    show _ = Ending.returned (.tuple #[.string ⟨(Gal.coefs (Blk.patch b.data.toList [] (fun _ => 0#8) 0) b.data.toList.length).toArray⟩, .bool (decide (Blk.Code (Gal.coefs (Blk.patch b.data.toList [] (fun _ => 0#8) 0) b.data.toList.length)))])
    rw [e1]
  · rcases G.cases with ⟨_, h1, _⟩ | ⟨g, rfl, hg, hc⟩
    · omega
    · exact rmended_any b g 0 c l n L G.len h0 h8 hb hL hp' w hg hc
theorem own_empty (w : World) : (w.alloc (.cells #[] 3)).ownsRow w.heap.size 3 1 (.slice (some ⟨w.heap.size, 0, none⟩) 0 0) 0 [] := by
  refine ⟨rfl, .inr ⟨w.heap.size, 0, #[], rfl, Nat.le_refl _, ?_, Nat.le_refl _, Nat.zero_le _, rfl, rfl⟩⟩
  unfold World.alloc
  simp
/-- append([]int{}, f...) -/
theorem wpList_copy {w : World} {ops : Array Oper} {rest : List Oper} {o : Oper} {a : Act} {Q : Exit → Act → World → Prop} (hgd : o.guard = none) (s x : Operand)
    (ho : o.op = .call { callee := .builtin .append, args := #[s, x], argTypes := #[28, 28] }) (base : Nat) (v : Value) (hs : a.eval s = v) (hown : w.ownsRow base 3 1 v 0 [])
    (f : List Nat) (af : Option Addr) (n cf : Nat) (hn : n ≤ 1000) (hx : a.eval x = .slice af n cf) (G : Got w af n cf f) (hbase : base ≤ w.heap.size)
    (h : ∀ v' w', w'.ownsRow base 3 1 v' n (plv f) → Below base w w' → wpList Tryz.prog ops Q rest (a.put o.dst v') w') : wpList Tryz.prog ops Q (o :: rest) a w := by
  obtain ⟨i0, hi0, hz0, hz1, hz2⟩ := info_parts info_i64
  have hl := G.len
  rcases G.cases with ⟨rfl, rfl, rfl⟩ | ⟨g, rfl, hg, hc⟩
  · obtain rfl := List.eq_nil_of_length_eq_zero hl
    refine wpList_append_own_none hgd s x 28 ho base 3 i0 1 Tryz.underlying28 hi0 v 0 [] hs hown hx (h _ _ hown (Below.refl _ _))
  · refine wpList_append_own _ hgd s x 28 ho base 3 i0 (.int .i64 0) 1 8 Tryz.underlying28 hi0 hz0 hz1 hz2 rfl (by decide) v 0 [] hs hown ⟨g, 0, none⟩ n cf (plv f) hx (by unfold plv; rw [List.length_map, hl, Nat.mul_one]) G.news (fun u hu => by
      unfold plv at hu
      obtain ⟨q, _, rfl⟩ := List.mem_map.1 hu
      simp [Value.oneCell']) (by unfold maxLen; omega) (by omega) hbase ?_
    intro v' w' hown2 hgrow _
    rw [Nat.zero_add, List.nil_append] at hown2
    exact h v' w' hown2 ((Below.refl _ _).grown hgrow hbase (fun k e => own_block_ge hown e))
theorem take_mem2 (zs : List Int) {k : Nat} (hk : k < zs.length) {p : Nat} (hp : zs.getD k 0 = (p : Int)) (j : Nat) : (j : Int) ∈ zs.take (k + 1) ↔ (j : Int) ∈ zs.take k ∨ j = p := by
  rw [List.take_add_one, List.getElem?_eq_getElem hk, List.mem_append]
  rw [getD_at zs hk] at hp
  rw [hp]
  simp only [Option.toList_some, List.mem_singleton]
  exact or_congr Iff.rfl ⟨fun e => by omega, fun e => by omega⟩
/-- What the reference's Decode does. -/
def RDecP (b : List UInt8) (zs : List Int) (w : World) (e : Ending) (w' : World) : Prop :=
  ∃ f o k x, f.Nodup ∧ (∀ j : Nat, j ∈ f ↔ (j : Int) ∈ zs) ∧ e = .returned (.tuple #[.string ⟨o.toArray⟩, .int .i64 k, .int .i64 x]) ∧ Blk.Dec b f o k x ∧ Below w.heap.size w w'
set_option maxRecDepth 100000 in
set_option maxHeartbeats 2000000 in
theorem rdecode_any (b : ByteArray) (a : Option Addr) (cap m L : Nat) (zs : List Int) (hb : b.size = L) (h9 : 9 ≤ L) (hL : L ≤ 231) (hm : zs.length = m) (m2 : m ≤ 1000) (hz : Within zs L) (w : World) (R : Ints w a zs) :
    Calls Tryz.prog 13 #[.string b, .slice a m cap] w (RDecP b.data.toList zs w) := by
  have HBS := Lib.hid hb
  have HM := Lib.hid hm
  have HZ := Lib.hid hz
  have HR := Lib.hid R
  have LC := Lib.hid (fun (a : Option Addr) (c : Nat) (l : List Nat) (k e : Nat) (he : k + 2 * e ≤ 8) (hp : ∀ q, q ∈ l → q < L) w G => rlocator_all b a c l k e L he hb hL hp w G)
  have MC := Lib.hid (fun (a : Option Addr) (c : Nat) (l : List Nat) (n : Nat) (h8 : n ≤ 8) (hp : ∀ q, q ∈ l → q < L) w G => rmended_all b a c l n L h8 hb hL hp w G)
  have BL := Lib.hid (show b.data.toList.length = L by rw [ls, hb])
  obtain ⟨bl, hbl⟩ : ∃ l, b.data.toList = l := ⟨_, rfl⟩
  rw [hbl] at LC MC BL ⊢
  have HBL := Lib.hid hbl
  have NB : ¬ (L : Int) ≤ 8 := by omega
  have NB2 : ¬ (231 : Int) < (L : Int) := by omega
  clear hb hm hz R hbl
  go_enter Tryz.func13, Tryz.ntmps13
  have sb := HBS.out
  go_wp2_with fail
  go_loopw [7, 8] (fun o u wr => ∃ (k : Nat) (f : List Nat), k ≤ m ∧ u = .int .i64 (k : Nat) ∧ f.Nodup ∧ (∀ j : Nat, j ∈ f ↔ (j : Int) ∈ zs.take k) ∧ f.length ≤ k ∧ wr.ownsRow w.heap.size 3 1 o f.length (plv f) ∧ Below w.heap.size w wr) (fun _ u _ => m - (intOf u).toNat)
  case atStart => exact ⟨0, [], Nat.zero_le _, rfl, List.nodup_nil, by simp, Nat.le_refl _, World.ownsRow_nil _ _ _ _, Below.refl _ _⟩
  case round =>
    obtain ⟨k, f, hk, rfl, hnd, hmem, hlen, hown, hB⟩ := hrel
    obtain ⟨n, hn⟩ : ∃ n, f.length = n := ⟨_, rfl⟩
    rw [hn] at hown hlen
    obtain ⟨af, cf, rfl, hG⟩ := own_got hn hown
    have HN := Lib.hid hn
    have HO := Lib.hid hown
    have HG := Lib.hid hG
    have HB := Lib.hid hB
    have HND := Lib.hid hnd
    have HME := Lib.hid hmem
    clear hn hown hG hB hnd hmem
    rename World => w1
    by_cases hlt : k < m
    · obtain ⟨zb, zo, rfl, zl, zc⟩ := HR.out.cell (by rw [HM.out]; omega)
      have ck := (HB.out.cell (p := ⟨zb, zo + k, none⟩) zl).trans (zc k (by rw [HM.out]; exact hlt))
      obtain ⟨p, hp, hpL⟩ : ∃ p : Nat, zs.getD k 0 = (p : Int) ∧ p < L := by
        have hk' : k < zs.length := by rw [HM.out]; exact hlt
        have := HZ.out (zs.getD k 0) (by rw [getD_at zs hk']; exact List.getElem_mem _)
        exact ⟨(zs.getD k 0).toNat, by omega, by omega⟩
      have TM := Lib.hid (take_mem2 zs (by rw [HM.out]; exact hlt) hp)
      rw [hp] at ck
      have CK := Lib.hid (fun w' (hb : Below w1.heap.size w1 w') => (hb.cell (p := ⟨zb, zo + k, none⟩) (Nat.lt_of_lt_of_le zl HB.out.size)).trans ck)
      have IN := Lib.hid (inside_any af cf (il f) n (by rw [il_len]; exact HN.out) (by omega) (p : Int) w1 HG.out.ints)
      have p0 : decide ((p : Int) < 0) = false := by simp
      have p1 : ¬ (L : Int) ≤ (p : Int) := by omega
      clear zc zl hp
      by_cases hpf : p ∈ f
      · rw [decide_eq_true ((il_mem f p).2 hpf)] at IN
        have ME := Lib.hid (show ∀ j : Nat, j ∈ f ↔ (j : Int) ∈ zs.take (k + 1) from fun j => by rw [TM.out j, ← HME.out j]; exact ⟨fun h => .inl h, fun h => h.elim id (fun e => e ▸ hpf)⟩)
        clear hpf
        go_wp2_with fail
        (with_reducible refine IN.out.mono ?_)
        rintro e w' ⟨rfl, rfl⟩
        go_wp2_with fail
        go_roundw
        case rel => exact ⟨k + 1, f, by omega, by go_num, HND.out, ME.out, by rw [HN.out]; omega, by rw [HN.out]; exact HO.out, HB.out⟩
        case measure => simp [intOf]; omega
      · rw [decide_eq_false (fun h => hpf ((il_mem f p).1 h))] at IN
        have ME := Lib.hid (show ∀ j : Nat, j ∈ f ++ [p] ↔ (j : Int) ∈ zs.take (k + 1) from fun j => by rw [TM.out j, ← HME.out j, List.mem_append, List.mem_singleton])
        have ND := Lib.hid (show (f ++ [p]).Nodup from List.nodup_append.2 ⟨HND.out, by simp, fun x hx y hy e => hpf (by rw [List.mem_singleton.1 hy] at e; exact e ▸ hx)⟩)
        have LN := Lib.hid (show (f ++ [p]).length = n + 1 by rw [List.length_append, HN.out]; rfl)
        have PL := Lib.hid (plv_add f p)
        obtain ⟨i0, hi0, hz0, hz1, hz2⟩ := info_parts info_i64
        have B1 := Lib.hid (HB.out.alloc HB.out.size (.cells #[.int .i64 (p : Nat)] 3))
        clear hpf
        go_wp2_with fail
        (with_reducible refine IN.out.mono ?_)
        rintro e w' ⟨rfl, rfl⟩
        go_wp2_with (at_builtin; refine wpList_append_own _ rfl _ _ 28 rfl w.heap.size 3 i0 (.int .i64 0) 1 8 Tryz.underlying28 hi0 hz0 hz1 hz2 rfl (by decide) _ _ _ rfl (HO.out.alloc _) ⟨w1.heap.size, 0, none⟩ 1 1 [.int .i64 (p : Nat)] rfl rfl cell_one (by simp [Value.oneCell']) (by unfold maxLen; omega) (by omega) B1.out.size ?_; intro v' w2 hown2 hgrow _; obtain ⟨g', cap', rfl⟩ := ownsRow_succ hown2; have HO2 := Lib.hid hown2; have BW2 := Lib.hid (B1.out.grown hgrow B1.out.size (fun k e => own_block_ge HO.out e)); clear hown2 hgrow)
        go_roundw
        case rel => exact ⟨k + 1, f ++ [p], by omega, by go_num, ND.out, ME.out, by rw [LN.out]; omega, by rw [LN.out, PL.out]; exact HO2.out, BW2.out⟩
        case measure => simp [intOf]; omega
    · obtain rfl : k = m := by omega
      have ME := Lib.hid (show ∀ j : Nat, j ∈ f ↔ (j : Int) ∈ zs from fun j => by rw [HME.out j, ← HM.out, List.take_length])
      have FL := Lib.hid (show ∀ q, q ∈ f → q < L from fun q hq => by have := HZ.out _ ((ME.out q).1 hq); omega)
      have FB := Lib.hid (show ∀ q, q ∈ f → q < bl.length from fun q hq => by rw [BL.out]; exact FL.out q hq)
      have B255 := Lib.hid (show bl.length ≤ 255 by rw [BL.out]; omega)
      clear HME HR HZ HM
      go_wp2_with fail
      go_loopw [9] (fun u9 wr => ∃ e : Nat, e ≤ 5 ∧ u9 = .int .i64 (e : Nat) ∧ (∀ c, Blk.Near bl f c → e ≤ Blk.besides bl c f) ∧ Below w1.heap.size w1 wr) (fun u9 _ => 5 - (intOf u9).toNat)
      case atStart => exact ⟨0, Nat.zero_le _, rfl, fun _ _ => Nat.zero_le _, Below.refl _ _⟩
      case round =>
        obtain ⟨e, he5, rfl, hinv, hB2⟩ := hrel
        have HI := Lib.hid hinv
        have HB2 := Lib.hid hB2
        clear hinv hB2
        rename World => w2
        by_cases g : n + 2 * e ≤ 8
        · have G2 := Lib.hid (HG.out.below HB2.out)
          have LC2 := Lib.hid (LC.out af cf f n e g FL.out w2 G2.out)
          have FG := Lib.hid (show f.length + 2 * e ≤ 8 by rw [HN.out]; exact g)
          have e4 : e ≤ 4 := by omega
          go_wp2_with fail
          (with_reducible refine LC2.out.mono ?_)
          rintro en w3 ⟨hB3, h⟩
          have HB3 := Lib.hid (HB2.out.trans (hB3.mono HB2.out.size))
          have G3 := Lib.hid (G2.out.below hB3)
          clear hB3 LC2
          rcases h with ⟨y, hS, hU, rfl⟩ | ⟨z, i, hi, h1, hz, rfl⟩
          · have HU := Lib.hid (show ∀ z, Blk.Solves (Blk.locM (twisted bl f) f.length e) e z 1#8 → ∀ r, r < e → z r = y r by rw [HN.out]; exact hU)
            have EV := Lib.hid (fun x w => reval_any ⟨(1 :: Gal.coefs y e).toArray⟩ x (by rw [sz, List.length_cons, Gal.coefs_length]; omega) w)
            obtain ⟨lst, hls⟩ : ∃ s : ByteArray, (⟨(1 :: Gal.coefs y e).toArray⟩ : ByteArray) = s := ⟨_, rfl⟩
            have LE := Lib.hid (show lst.data.toList = 1 :: Gal.coefs y e by rw [← hls])
            rw [hls] at EV ⊢
            have OE := Lib.hid (own_empty w3)
            have BE := Lib.hid (ba (Below.refl w3.heap.size w3) (.cells #[] 3))
            have GE := Lib.hid (G3.out.below BE.out)
            clear hS hU hls
            go_wp2_with (at_builtin; refine wpList_copy rfl _ _ rfl w3.heap.size _ rfl OE.out f af n cf (by omega) rfl GE.out BE.out.size ?_; intro v4 w4 hown4 hB4; obtain ⟨a4, c4, rfl, _⟩ := own_got HN.out hown4; have HO4 := Lib.hid hown4; have HB4 := Lib.hid (BE.out.trans hB4); clear hown4 hB4)
            go_loopw [12, 13] (fun o u wr => ∃ i : Nat, i ≤ L ∧ u = .int .i64 (i : Nat) ∧ wr.ownsRow w3.heap.size 3 1 o (n + (Blk.gs bl f y e i).length) (plv (f ++ Blk.gs bl f y e i)) ∧ Below w3.heap.size w3 wr) (fun _ u _ => L - (intOf u).toNat)
            case atStart => exact ⟨0, Nat.zero_le _, rfl, by rw [Blk.gs_zero, List.append_nil]; exact HO4.out, HB4.out⟩
            case round =>
              obtain ⟨i, hi, rfl, hown, hB⟩ := hrel
              have gl := Blk.gs_len bl f y e i
              have LNG := Lib.hid (show (f ++ Blk.gs bl f y e i).length = n + (Blk.gs bl f y e i).length by rw [List.length_append, HN.out])
              obtain ⟨q, hq⟩ : ∃ q, (Blk.gs bl f y e i).length = q := ⟨_, rfl⟩
              rw [hq] at hown gl LNG
              have HQ := Lib.hid hq
              obtain ⟨a5, c5, rfl, hG5⟩ := own_got LNG.out hown
              have HO5 := Lib.hid hown
              have HG5 := Lib.hid hG5
              have HB5 := Lib.hid hB
              have G6 := Lib.hid (G3.out.below HB5.out)
              clear hown hB hq hG5
              rename World => w5
              by_cases hlt : i < L
              · have IN := Lib.hid (inside_any af cf (il f) n (by rw [il_len]; exact HN.out) (by omega) (i : Int) w5 G6.out.ints)
                have CT := Lib.hid (show decide ((i : Int) ∈ il f) = f.contains i by rw [Bool.eq_iff_iff, decide_eq_true_iff, il_mem, List.contains_iff_mem])
                rw [CT.out] at IN
                have PE := Lib.hid (show Blk.Pl bl f y e i = (!f.contains i && decide (0 < e) && decide (Gal.evalV (1 :: Gal.coefs y e) (Blk.elemI bl.length i) = 0#8)) from rfl)
                have GY := Lib.hid (fun h => Blk.gs_yes (b := bl) (f := f) (y := y) (e := e) (k := i) h)
                have GN := Lib.hid (fun h => Blk.gs_no (b := bl) (f := f) (y := y) (e := e) (k := i) h)
                obtain ⟨v, hv⟩ : ∃ v, f.contains i = v := ⟨_, rfl⟩
                rw [hv] at IN PE
                clear hv CT
                cases v with
                | true =>
                  have GN2 := Lib.hid (GN.out (by rw [PE.out]; rfl))
                  go_wp2_with fail
                  (with_reducible refine IN.out.mono ?_)
                  rintro en w' ⟨rfl, rfl⟩
                  go_wp2_with fail
                  go_roundw
                  case rel => exact ⟨i + 1, by omega, by go_num, by rw [GN2.out, HQ.out]; exact HO5.out, HB5.out⟩
                  case measure => simp [intOf]; omega
                | false =>
                  by_cases e0 : 0 < e
                  · have e0i : (0 : Int) < (e : Int) := by omega
                    obtain ⟨dd, hdd⟩ : ∃ dd, L - 1 - i = dd := ⟨_, rfl⟩
                    have e1 : (L : Int) - 1 - (i : Int) = (dd : Int) := by omega
                    have i3 : IntKind.i64.wrap ((L : Int) - 1 - (i : Int)) = (dd : Int) := by rw [IntKind.wrap_i64]; omega
                    have i4 : IntKind.i64.wrap (-(dd : Int)) = -(dd : Int) := by rw [IntKind.wrap_i64]; omega
                    have PW := Lib.hid (fun w => power2_any (-(dd : Int)) w)
                    rw [show Gal.pwi (-(dd : Int)) = Blk.elemI bl.length i by unfold Blk.elemI; rw [BL.out, e1]] at PW
                    obtain ⟨x, hx⟩ : ∃ x, Blk.elemI bl.length i = x := ⟨_, rfl⟩
                    rw [hx] at PW PE
                    have EX := Lib.hid (fun w => EV.out x w)
                    rw [LE.out] at EX
                    obtain ⟨t, ht⟩ : ∃ t, Gal.evalV (1 :: Gal.coefs y e) x = t := ⟨_, rfl⟩
                    rw [ht] at EX PE
                    obtain ⟨xv, hxv⟩ : ∃ v, x.toNat = v := ⟨_, rfl⟩
                    obtain ⟨tv, htv⟩ : ∃ v, t.toNat = v := ⟨_, rfl⟩
                    rw [hxv] at PW EX
                    rw [htv] at EX
                    have HTV := Lib.hid htv
                    clear hdd hx ht hxv htv
                    by_cases t0 : tv = 0
                    · have GY2 := Lib.hid (GY.out (by rw [PE.out, decide_eq_true e0, decide_eq_true (show t = 0#8 from BitVec.eq_of_toNat_eq (by rw [HTV.out, t0]; rfl))]; rfl))
                      have t0i : (tv : Int) = 0 := by omega
                      have PL := Lib.hid (show plv (f ++ (Blk.gs bl f y e i ++ [i])) = plv (f ++ Blk.gs bl f y e i) ++ [.int .i64 (i : Nat)] by rw [← List.append_assoc]; exact plv_add _ _)
                      have LN := Lib.hid (show n + (Blk.gs bl f y e i ++ [i]).length = n + q + 1 by rw [List.length_append, HQ.out]; rfl)
                      obtain ⟨i0, hi0, hz0, hz1, hz2⟩ := info_parts info_i64
                      have B1 := Lib.hid (HB5.out.alloc HB5.out.size (.cells #[.int .i64 (i : Nat)] 3))
                      have n9 : n ≤ 8 := by omega
                      go_wp2_with fail
                      (with_reducible refine IN.out.mono ?_)
                      rintro en w' ⟨rfl, rfl⟩
                      go_wp2_with fail
                      (with_reducible refine (PW.out _).mono ?_)
                      rintro en w' ⟨rfl, rfl⟩
                      go_wp2_with fail
                      (with_reducible refine (EX.out _).mono ?_)
                      rintro en w' ⟨rfl, rfl⟩
                      go_wp2_with (at_builtin; refine wpList_append_own _ rfl _ _ 28 rfl w3.heap.size 3 i0 (.int .i64 0) 1 8 Tryz.underlying28 hi0 hz0 hz1 hz2 rfl (by decide) _ _ _ rfl (HO5.out.alloc _) ⟨w5.heap.size, 0, none⟩ 1 1 [.int .i64 (i : Nat)] rfl rfl cell_one (by simp [Value.oneCell']) (by unfold maxLen; omega) (by omega) B1.out.size ?_; intro v' w6 hown2 hgrow _; obtain ⟨g', cap', rfl⟩ := ownsRow_succ hown2; have HO6 := Lib.hid hown2; have BW6 := Lib.hid (B1.out.grown hgrow B1.out.size (fun k e => own_block_ge HO5.out e)); clear hown2 hgrow)
                      go_roundw
                      case rel => exact ⟨i + 1, by omega, by go_num, by rw [GY2.out, LN.out, PL.out]; exact HO6.out, BW6.out⟩
                      case measure => simp [intOf]; omega
                    · have GN2 := Lib.hid (GN.out (by rw [PE.out, decide_eq_true e0, decide_eq_false (show ¬ t = 0#8 from fun h => t0 (by rw [← HTV.out, h]; rfl))]; rfl))
                      have t0i : ¬ (tv : Int) = 0 := by omega
                      go_wp2_with fail
                      (with_reducible refine IN.out.mono ?_)
                      rintro en w' ⟨rfl, rfl⟩
                      go_wp2_with fail
                      (with_reducible refine (PW.out _).mono ?_)
                      rintro en w' ⟨rfl, rfl⟩
                      go_wp2_with fail
                      (with_reducible refine (EX.out _).mono ?_)
                      rintro en w' ⟨rfl, rfl⟩
                      go_wp2_with fail
                      go_roundw
                      case rel => exact ⟨i + 1, by omega, by go_num, by rw [GN2.out, HQ.out]; exact HO5.out, HB5.out⟩
                      case measure => simp [intOf]; omega
                  · have e0i : ¬ (0 : Int) < (e : Int) := by omega
                    have GN2 := Lib.hid (GN.out (by rw [PE.out, decide_eq_false e0]; rfl))
                    go_wp2_with fail
                    (with_reducible refine IN.out.mono ?_)
                    rintro en w' ⟨rfl, rfl⟩
                    go_wp2_with fail
                    go_roundw
                    case rel => exact ⟨i + 1, by omega, by go_num, by rw [GN2.out, HQ.out]; exact HO5.out, HB5.out⟩
                    case measure => simp [intOf]; omega
              · obtain rfl : i = L := by omega
                have HBW := Lib.hid (HB3.out.trans (HB5.out.mono HB3.out.size))
                have NP := Lib.hid (fun h => Blk.next_round HI.out (Blk.no_places B255.out FB.out (e := e) HU.out h))
                have MND := Lib.hid (fun y' hu hc => Blk.next_round HI.out (Blk.no_mends B255.out FB.out HND.out (e := e) HU.out (y' := y') hu hc))
                have MNK := Lib.hid (fun z j hi h1 hz => Blk.next_round HI.out (Blk.no_mends' B255.out FB.out HND.out (e := e) HU.out (z := z) (i := j) hi h1 hz))
                have RF := Lib.hid (fun hl y' hc => Blk.round_found (b := bl) (f := f) (e := e) (y := y) (y' := y') hl FG.out hc)
                rw [BL.out] at NP MND MNK RF
                by_cases gq : q = e
                · have gqi : (n : Int) + (e : Int) = ((n + q : Nat) : Int) := by omega
                  have PM := Lib.hid (show ∀ p, p ∈ f ++ Blk.gs bl f y e i → p < i from fun p hp => (List.mem_append.1 hp).elim (FL.out p) Blk.gs_lt)
                  have MC2 := Lib.hid (MC.out a5 c5 _ (n + q) (by omega) PM.out w5 HG5.out)
                  have LQ := Lib.hid (show (f ++ Blk.gs bl f y e i).length = f.length + e by rw [LNG.out, HN.out, gq])
                  obtain ⟨fl, hfl⟩ : ∃ l, f ++ Blk.gs bl f y e i = l := ⟨_, rfl⟩
                  rw [hfl] at MC2 LQ MND MNK RF
                  obtain ⟨nq, hnq⟩ : ∃ t, n + q = t := ⟨_, rfl⟩
                  rw [hnq] at gqi MC2 ⊢
                  clear hfl hnq PM HG5 HO5 LNG HQ G6
                  go_wp2_with fail
                  (with_reducible refine MC2.out.mono ?_)
                  rintro en w6 ⟨hB6, h⟩
                  have HB6 := Lib.hid (HBW.out.trans (hB6.mono HBW.out.size))
                  clear hB6 MC2
                  rcases h with ⟨y', hS, hu, rfl⟩ | ⟨z, j, hj, h1, hz, rfl⟩
                  · rw [BL.out]
                    have MND2 := Lib.hid (fun hc => MND.out y' hu hc)
                    have RF2 := Lib.hid (fun hc => RF.out LQ.out y' hc)
                    have CL := Lib.hid (Gal.coefs_length (Blk.patch bl fl y' fl.length) i)
                    obtain ⟨cl, hcl⟩ : ∃ l, Gal.coefs (Blk.patch bl fl y' fl.length) i = l := ⟨_, rfl⟩
                    rw [hcl] at MND2 RF2 CL ⊢
                    by_cases hC : Blk.Code cl
                    · rw [decide_eq_true hC]
                      have DD := Lib.hid (RF2.out hC)
                      have TS := Lib.hid (Blk.take_str cl i CL.out)
                      have CS := Lib.hid (show (⟨cl.toArray⟩ : ByteArray).size = i by rw [sz]; exact CL.out)
                      have CD := Lib.hid (show (⟨cl.toArray⟩ : ByteArray).data.toList = cl from rfl)
                      obtain ⟨cs, hcs⟩ : ∃ s : ByteArray, (⟨cl.toArray⟩ : ByteArray) = s := ⟨_, rfl⟩
                      rw [hcs] at TS CS CD ⊢
                      clear hcs hcl hS hu MND MND2 MNK RF RF2 NP HI HU EV
                      go_upto_region 11 with fail
                      refine decEnd b cs i HBS.out CS.out h9 hL (by kernel_rfl) rfl rfl rfl rfl rfl rfl rfl rfl rfl rfl rfl rfl rfl rfl rfl ?_
                      intro w7 k7
                      simp only [Act.put, List.setIfInBounds_toArray, List.set_cons_succ, List.set_cons_zero]
                      rw [TS.out, CD.out, HBL.out]
                      have FIN := Lib.hid (show RDecP bl zs w (.returned (.tuple #[.string ⟨(cl.take (i - 8)).toArray⟩, .int .i64 ((Blk.dif bl cl).length : Nat), .int .i64 0])) w7 from ⟨f, _, _, _, HND.out, ME.out, rfl, DD.out, HB.out.trans ((HB6.out.trans (k7.mono HB6.out.size)).mono HB.out.size)⟩)
                      obtain ⟨os, hos⟩ : ∃ s : ByteArray, (⟨(cl.take (i - 8)).toArray⟩ : ByteArray) = s := ⟨_, rfl⟩
                      obtain ⟨dn, hdn⟩ : ∃ d, (Blk.dif bl cl).length = d := ⟨_, rfl⟩
                      rw [hos, hdn] at FIN ⊢
                      clear k7 hos hdn
                      go_wp2_with fail
                      go_ret3
                      exact FIN.out
                    · rw [decide_eq_false hC]
                      have NR := Lib.hid (MND2.out hC)
                      obtain ⟨cs, hcs⟩ : ∃ s : ByteArray, (⟨cl.toArray⟩ : ByteArray) = s := ⟨_, rfl⟩
                      rw [hcs]
                      clear hcs hcl hS hu MND MND2 MNK RF RF2 NP HI HU EV hC
                      go_wp2_with fail
                      go_roundw
                      case rel => exact ⟨e + 1, by omega, by go_num, NR.out, HB6.out⟩
                      case measure => simp [intOf]; omega
                  · have NR := Lib.hid (MNK.out z j hj h1 hz)
                    clear hj h1 hz MND MNK RF NP HI HU EV
                    go_wp2_with fail
                    go_roundw
                    case rel => exact ⟨e + 1, by omega, by go_num, NR.out, HB6.out⟩
                    case measure => simp [intOf]; omega
                · have NR := Lib.hid (NP.out (by rw [LNG.out, HN.out]; omega))
                  have gqi : ¬ ((n : Int) + (q : Int)) = (n : Int) + (e : Int) := by omega
                  clear MND MNK RF NP HI HU EV HG5 HO5 LNG HQ G6
                  go_wp2_with fail
                  go_roundw
                  case rel => exact ⟨e + 1, by omega, by go_num, NR.out, HBW.out⟩
                  case measure => simp [intOf]; omega
          · have NR := Lib.hid (Blk.next_round HI.out (Blk.no_kernel B255.out FB.out (e := e) (z := z) (i := i) hi h1 (by rw [HN.out]; exact hz)))
            clear hi h1 hz HI
            go_wp2_with fail
            go_roundw
            case rel => exact ⟨e + 1, by omega, by go_num, NR.out, HB3.out⟩
            case measure => simp [intOf]; omega
        · have FIN := Lib.hid (show RDecP bl zs w (.returned (.tuple #[.string ⟨#[]⟩, .int .i64 0, .int .i64 50])) w2 from ⟨f, [], 0, 50, HND.out, ME.out, rfl, Blk.no_more HI.out (by rw [HN.out]; exact g), HB.out.trans (HB2.out.mono HB.out.size)⟩)
          clear HI LC MC
          go_wp2_with fail
          go_ret3
          exact FIN.out
end Go.Proofs.YtlpjhmafplljaaaGreatDoor
