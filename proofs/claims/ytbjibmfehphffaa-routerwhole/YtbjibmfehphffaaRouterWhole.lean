/-
  The pieces of a split are no more than the slice, each on the lot and on its venue's, none for who is not healthy, one for each at most; what is left could be put nowhere: for every two numbers and every list (of up to 30 offers at places apart: else the function answers true by itself).
-/
import Derived.Test.YtbjibmfehphffaaRoAwake
import Derived.Test.YtbjibmfehphffaaRoWholeMath
import Derived.Test.YtbjibmfehphffaaFrame23
namespace Go.Proofs.Ytbjibmfehphffaa
open Go.ChangeShapes Go.WideShapes Go.ChangeAt Go.RowKit RO

/-- The slice value v reads as pieces. -/
def PcR (w : World) (v : Value) (ps : List Pc) : Prop := ∃ a cap, v = .slice a ps.length cap ∧ ps.length ≤ cap ∧ ∀ i x, ps[i]? = some x → ∃ b, a = some ⟨b, 0, none⟩ ∧ w.cell? ⟨b, i * 2, none⟩ = some (.int .i64 x.pl) ∧ w.cell? ⟨b, i * 2 + 1, none⟩ = some (.int .i64 x.q)
theorem pcR_of_own {w : World} {B : Nat} {v : Value} {ps : List Pc} {e : TypeId} (h : w.ownsRow B e 2 v ps.length (allP ps)) : PcR w v ps := by
  have hcs := fun g hg => h.cells (g := g) hg
  rcases h.2 with ⟨rfl, e⟩ | ⟨g, cap, cur, rfl, hb, hg, hc, _⟩
  · refine ⟨none, 0, by rw [e], by omega, fun i x hx => ?_⟩
    rw [List.eq_nil_of_length_eq_zero e] at hx
    simp at hx
  · refine ⟨_, cap, rfl, hc, fun i x hx => ⟨g, rfl, ?_, ?_⟩⟩
    · have := hcs g rfl (i * 2 + 0) (.int .i64 x.pl) (by rw [allP_at ps i 0 x hx (by omega)]; rfl)
      rw [Addr.add_lit, Nat.zero_add] at this
      exact this
    · have := hcs g rfl (i * 2 + 1) (.int .i64 x.q) (by rw [allP_at ps i 1 x hx (by omega)]; rfl)
      rw [Addr.add_lit, Nat.zero_add] at this
      exact this
theorem PcR.below {w w' : World} {v : Value} {ps : List Pc} (h : PcR w v ps) (k : Below w.heap.size w w') : PcR w' v ps := by
  obtain ⟨a, cap, rfl, h1, h3⟩ := h
  refine ⟨a, cap, rfl, h1, fun i x hx => ?_⟩
  obtain ⟨b, e, c0, c1⟩ := h3 i x hx
  have lt := World.block_lt_of_cell? _ _ c0
  exact ⟨b, e, (k.cell (p := ⟨b, i * 2, none⟩) lt).trans c0, (k.cell (p := ⟨b, i * 2 + 1, none⟩) lt).trans c1⟩
theorem wholeL_len (qty lot : Int) (xs : List Of) : (splitL qty lot xs).length ≤ xs.length := by
  have h1 := piecesL_len (rndL (fun _ => rndZ shn qty (sharesL lot xs)) (rndZ shn qty (sharesL lot xs)) (rndL shn qty (sharesL lot xs)))
  rw [rndL_length, rndL_length] at h1
  exact Nat.le_trans h1 (sharesL_len lot xs)
/-- What a split of offers at places apart keeps to, told of the list as it was handed in. -/
theorem whole_told {qty lot : Int} {n : Nat} {L : Nat → Of} {f : Nat → Nat} (hE : spE qty lot n L = 0) (hf : Ranked L n f) (hd : ∀ i j, i < n → j < n → (L i).pl = (L j).pl → i = j) :
    ∃ left, (∀ x ∈ splitL qty lot (listO (fun k => L (f k)) n), 1 ≤ x.q ∧ ∃ k, k < n ∧ (L k).pl = x.pl ∧ x.q % lot = 0 ∧ x.q % (L k).lt = 0 ∧ (L k).ok = true)
      ∧ sumP (splitL qty lot (listO (fun k => L (f k)) n)) + left = qty ∧ 0 ≤ left ∧ (∀ k, k < n → 0 < stepOf lot (L k) → left < stepOf lot (L k))
      ∧ ∀ (ys zs : List Pc) (x : Pc), splitL qty lot (listO (fun k => L (f k)) n) = ys ++ x :: zs → ∀ y ∈ ys, y.pl ≠ x.pl := by
  obtain ⟨hq, hl, ha, hn⟩ := spE_none hE
  have hW := anyW_false.1 ha
  have hq' := of_decide_eq_true hq
  have hl' := of_decide_eq_true hl
  obtain ⟨gs, left, e, W⟩ := whole_of (lot := lot) (G := fun k => L (f k)) (n := n) hq'.1 hl'.1 (fun i hi => hW _ (hf.lt hi))
  have inj : ∀ i j, i < n → j < n → f i = f j → i = j := fun i j hi hj e => by
    obtain ⟨p, q, hp, _⟩ := hf.1.way
    have h1 := hp i (Nat.zero_le _) hi
    have h2 := hp j (Nat.zero_le _) hj
    have h3 : p i = p j := by have a := h1.2.2.2; have b := h2.2.2.2; simp only [id] at a b; omega
    rw [← h1.2.2.1, ← h2.2.2.1, h3]
  rw [e]
  refine ⟨left, fun x hx => ?_, W.sum, W.left0, fun k hk hs => ?_, fun ys zs x h y hy => ?_⟩
  · obtain ⟨h1, k, hk, h2⟩ := W.each x hx
    exact ⟨h1, f k, hf.lt hk, h2⟩
  · obtain ⟨p, q, _, hq⟩ := hf.1.way
    obtain ⟨_, q2, q3⟩ := hq k (Nat.zero_le _) hk
    obtain ⟨p1, q', hp, _⟩ := hf.1.way
    have hs' : ∃ i, i < n ∧ f i = k := by
      have := hf.1.symm.from (Nat.zero_le k) hk
      obtain ⟨j, _, j2, ej⟩ := this
      exact ⟨j, j2, ej.symm⟩
    obtain ⟨i, hi, rfl⟩ := hs'
    exact W.low i hi hs
  · exact pcG_apart (G := fun k => L (f k)) (fun i j hi hj e => inj i j hi hj (hd _ _ (hf.lt hi) (hf.lt hj) e)) ys zs x h y hy
set_option maxRecDepth 100000 in
set_option maxHeartbeats 8000000 in
theorem whole_in (w : World) (qty lot : Int) (n : Nat) (L : Nat → Of) (v : Value) (h : RowL w v n L) (hn : n ≤ 30) :
    Calls Try.prog 6 #[.int .i64 qty, .int .i64 lot, v] w fun e w' => e = .returned (.bool true) ∧ Below w.heap.size w w' := by
  have t : ¬ (30 : Int) < (n : Int) := by omega
  have FB := fun hE (w1 : World) (hb : Below w.heap.size w w1) => split_bad qty lot n L v w1 (h.below hb) (by omega) hE
  have FG := fun hE (w1 : World) (hb : Below w.heap.size w w1) => split_good qty lot n L v w1 (h.below hb) hE
  obtain ⟨a, cap, rfl, _, hc⟩ := id h
  have HFB : Hid (∀ (_ : spE qty lot n L ≠ 0) (w1 : World) (_ : Below w.heap.size w w1), Calls Try.prog 14 #[.int .i64 qty, .int .i64 lot, .slice a n cap] w1 fun e w' => e = .returned (.tuple #[.slice none 0 0, .int .i64 (spE qty lot n L)]) ∧ Below w1.heap.size w1 w') := FB
  have HFG : Hid (∀ (_ : spE qty lot n L = 0) (w1 : World) (_ : Below w.heap.size w w1), Calls Try.prog 14 #[.int .i64 qty, .int .i64 lot, .slice a n cap] w1 fun e w' => ∃ f v', e = .returned (.tuple #[v', .int .i64 0]) ∧ Hid (Ranked L n f ∧ w'.ownsRow w1.heap.size 45 2 v' (splitL qty lot (listO (fun k => L (f k)) n)).length (allP (splitL qty lot (listO (fun k => L (f k)) n))) ∧ Below w1.heap.size w1 w')) := FG
  have HC : Hid (∀ i, i < n → ∃ b o, a = some ⟨b, o, none⟩ ∧ Fiv w b (o + i * 5) (L i)) := hc
  clear FB FG h hc
  go_enter Try.func6, Try.ntmps6
  go_wp2_with fail
  refine (awake_any w).mono ?_
  rintro e w1 ⟨rfl, B1⟩
  go_wp2_with fail
  go_loopw [30] (fun x wr => ∃ i : Nat, x = .int .i64 (i : Int) ∧ i ≤ n ∧ Hid (∀ a b, a < b → b < i → (L b).pl ≠ (L a).pl) ∧ Below w.heap.size w wr) (fun x _ => n - (RowKit.intOf x).toNat)
  case atStart => exact ⟨0, rfl, Nat.zero_le _, fun _ _ _ h => absurd h (Nat.not_lt_zero _), B1⟩
  case round =>
    obtain ⟨i, rfl, hi, HD, hB⟩ := hrel
    by_cases hlt : i < n
    · have t : (i : Int) < (n : Int) := by omega
      obtain ⟨b, o, rfl, ci⟩ := HC.out i hlt
      have li := ci.lt
      have HCI : Hid (∀ W, Below w.heap.size w W → W.cell? ⟨b, o + i * 5, none⟩ = some (.int .i64 (L i).pl)) := fun W hW => (ci.below hW).all.1
      clear ci
      go_wp2_with fail
      go_loopw [34] (fun x wr2 => ∃ k : Nat, x = .int .i64 (k : Int) ∧ k ≤ i ∧ Hid (∀ a, a < k → (L i).pl ≠ (L a).pl) ∧ Below w.heap.size w wr2) (fun x _ => i - (RowKit.intOf x).toNat)
      case atStart => exact ⟨0, rfl, Nat.zero_le _, fun _ h => absurd h (Nat.not_lt_zero _), hB⟩
      case round =>
        obtain ⟨k, rfl, hk, HK, hB2⟩ := hrel
        by_cases hlk : k < i
        · have tk : (k : Int) < (i : Int) := by omega
          have tk2 : (k : Int) < (n : Int) := by omega
          obtain ⟨b', o', e, ck⟩ := HC.out k (by omega)
          injection e with e
          injection e with e1 e2
          subst e1 e2
          have c0 := HCI.out wr hB2
          have c1 := (ck.below hB2).all.1
          have HKN : Hid ((L i).pl ≠ (L k).pl → ∀ a, a < k + 1 → (L i).pl ≠ (L a).pl) := fun h a ha => by
            rcases Nat.lt_or_eq_of_le (Nat.le_of_lt_succ ha) with c | rfl
            · exact HK.out a c
            · exact h
          clear ck HK
          generalize (L i).pl = pi at c0 HKN
          generalize (L k).pl = pk at c1 HKN
          by_cases hp : pi = pk
          · subst hp
            go_wp2_with fail
            go_quiet (fail)
            go_wp2_with fail
            go_ret
            exact ⟨rfl, below_more hB2 _⟩
          · have HX := HKN.out hp
            replace HKN : Hid _ := HX
            clear HX
            go_wp2_with fail
            go_quiet (fail)
            go_wp2_with fail
            go_roundw
            case rel => exact ⟨k + 1, by simp, by omega, HKN.out, below_more hB2 _⟩
            case measure => simp [RowKit.intOf] <;> omega
        · have tk : ¬ (k : Int) < (i : Int) := by omega
          have hki : i = k := by omega
          subst hki
          have HD2 : Hid (∀ a b, a < b → b < i + 1 → (L b).pl ≠ (L a).pl) := fun a b h1 h2 => by
            rcases Nat.lt_or_eq_of_le (Nat.le_of_lt_succ h2) with c | rfl
            · exact HD.out a b h1 c
            · exact HK.out a h1
          clear HK HD
          go_wp2_with fail
          go_roundw
          case rel => exact ⟨i + 1, by simp, by omega, HD2.out, hB2⟩
          case measure => simp [RowKit.intOf] <;> omega
    · have t : ¬ (i : Int) < (n : Int) := by omega
      have hni : n = i := by omega
      subst hni
      have HDD : Hid (∀ i j, i < n → j < n → (L i).pl = (L j).pl → i = j) := fun i j hi hj e => by
        rcases Nat.lt_trichotomy i j with c | c | c
        · exact absurd e.symm (HD.out i j c hj)
        · exact c
        · exact absurd e (HD.out j i c hi)
      clear HD hlt hi
      by_cases hE : spE qty lot n L = 0
      · have F := HFG.out hE wr hB
        obtain ⟨hq, hl, ha, hn8⟩ := spE_none hE
        have hW := anyW_false.1 ha
        have hq' := of_decide_eq_true hq
        have hl' := of_decide_eq_true hl
        have HW : Hid (∀ i, i < n → wrongB (L i) = false) := hW
        clear HFB HFG hq hl ha hW
        go_wp2_with fail
        refine F.mono ?_
        rintro e w2 ⟨f, v2, rfl, H2⟩
        clear F
        have HB2 : Hid (Below w.heap.size w w2) := hB.trans (H2.out.2.2.mono hB.size)
        have HP2 := pcR_of_own H2.out.2.1
        obtain ⟨left, W1, W2, W3, W4, W5⟩ := whole_told hE H2.out.1 HDD.out
        have hpl := wholeL_len qty lot (listO (fun k => L (f k)) n)
        rw [listO_length] at hpl
        clear H2 hE
        generalize splitL qty lot (listO (fun k => L (f k)) n) = ps at *
        replace hpl : ps.length ≤ 30 := Nat.le_trans hpl hn
        obtain ⟨a2, c2, rfl, hc2, hp2⟩ := HP2
        have HPC : Hid (∀ i x, ps[i]? = some x → ∃ b, a2 = some ⟨b, 0, none⟩ ∧ w2.cell? ⟨b, i * 2, none⟩ = some (.int .i64 x.pl) ∧ w2.cell? ⟨b, i * 2 + 1, none⟩ = some (.int .i64 x.q)) := hp2
        have HW1 : Hid (∀ x ∈ ps, 1 ≤ x.q ∧ ∃ k, k < n ∧ (L k).pl = x.pl ∧ x.q % lot = 0 ∧ x.q % (L k).lt = 0 ∧ (L k).ok = true) := W1
        have HW2 : Hid (sumP ps + left = qty) := W2
        have HW4 : Hid (∀ k, k < n → 0 < stepOf lot (L k) → left < stepOf lot (L k)) := W4
        have HW5 : Hid (∀ (ys zs : List Pc) (x : Pc), ps = ys ++ x :: zs → ∀ y ∈ ys, y.pl ≠ x.pl) := W5
        have snn : Hid (∀ zs : List Pc, (∀ x ∈ zs, 1 ≤ x.q) → 0 ≤ sumP zs) := by
          intro zs
          induction zs with
          | nil => exact fun _ => Int.le_refl _
          | cons z zs ih => intro h; have := ih (fun x hx => h x (List.mem_cons_of_mem _ hx)); have := h z (by simp); show 0 ≤ z.q + sumP zs; omega
        clear hp2 W1 W2 W4 W5 hB
        go_wp2_with fail
        go_loopw [11, 65] (fun y x wr => ∃ (ys zs : List Pc) (l : Int), x = .int .i64 (ys.length : Int) ∧ y = .int .i64 l ∧ ys.length + zs.length = ps.length ∧ 0 ≤ l ∧ l ≤ 1099511627776 ∧ Hid (ps = ys ++ zs ∧ l = qty - sumP ys) ∧ Below w2.heap.size w2 wr) (fun _ x _ => ps.length - (RowKit.intOf x).toNat)
        case atStart => exact ⟨[], ps, qty, rfl, rfl, by simp, hq'.1, hq'.2, ⟨rfl, by simp [sumP]⟩, Below.refl _ _⟩
        case round =>
          obtain ⟨ys, zs, l, rfl, rfl, hlen, hl0, hl1, HI, hB3⟩ := hrel
          cases zs with
          | nil =>
            have t3 : ¬ (ys.length : Int) < (ps.length : Int) := by simp at hlen; omega
            have hll : l = left := by
              have h1 := HI.out.1
              rw [List.append_nil] at h1
              have h2 := HI.out.2
              rw [← h1] at h2
              have := HW2.out
              omega
            subst hll
            have HB5 : Hid (Below w.heap.size w wr) := HB2.out.trans (hB3.mono HB2.out.size)
            clear HI HW1 HW2 HW5 HPC hlen snn hB3
            go_wp2_with fail
            go_loopw [144] (fun x wr6 => ∃ j : Nat, x = .int .i64 (j : Int) ∧ j ≤ n ∧ Below wr.heap.size wr wr6) (fun x _ => n - (RowKit.intOf x).toNat)
            case atStart => exact ⟨0, rfl, Nat.zero_le _, Below.refl _ _⟩
            case round =>
              obtain ⟨j, rfl, hj, hB6⟩ := hrel
              by_cases hlj : j < n
              · have tj : (j : Int) < (n : Int) := by omega
                obtain ⟨b, o, rfl, cj⟩ := HC.out j hlj
                have cc := (cj.below HB5.out).below hB6
                have ok := wrong_false (HW.out j hlj)
                have F := fun w => step_any lot (L j).lt w (by omega) (by omega) (by omega) (by omega)
                have hpos := fun e => stN_pos hl'.1 ok.1 e
                have hlow := HW4.out j hlj
                unfold stepOf at hlow
                have lb := cc.lt
                clear cj
                generalize L j = x at cc F hpos hlow ok
                obtain ⟨x0, x1, x2, x3, x4⟩ := x
                obtain ⟨c0, c1, c3, c4, c5⟩ := cc.all
                clear cc
                simp only at c0 c1 c3 c4 c5 F hpos hlow ok
                generalize stN lot x1 = N at F hpos hlow
                generalize stE lot x1 = E at F hpos hlow
                have hnot : ¬ (x4 = true ∧ E = 0 ∧ N ≤ 1099511627776 ∧ N ≤ l) := by
                  rintro ⟨h1, h2, h3, h4⟩
                  rw [if_pos ⟨h1, h2, h3⟩] at hlow
                  have := hpos h2
                  have := hlow (by omega)
                  omega
                have HNOT : Hid (¬ (x4 = true ∧ E = 0 ∧ N ≤ 1099511627776 ∧ N ≤ l)) := hnot
                clear hlow hpos ok hnot
                go_wp2_with fail
                refine (F _).mono ?_
                rintro e w7 ⟨rfl, hb7⟩
                have q4 := (hb7.cell (p := ⟨wr.heap.size, 4, none⟩) (by simp)).trans (show _ = some (.bool x4) by simp)
                have HB7 := hB6.trans ((((Below.refl wr.heap.size wr).alloc (Nat.le_refl _) (.cells #[.int .i64 x0, .int .i64 x1, .int .i64 x2, .int .i64 x3, .bool x4] 35)).trans (hb7.mono (by simp))).mono hB6.size)
                clear F hb7 c0 c1 c3 c4 c5
                by_cases hE0 : E = 0
                · by_cases hN : N ≤ 1099511627776
                  · cases x4
                    · clear HNOT
                      go_wp2_with fail
                      go_roundw
                      case rel => exact ⟨j + 1, by simp, by omega, HB7⟩
                      case measure => simp [RowKit.intOf] <;> omega
                    · have hlN : ¬ N ≤ l := fun k => HNOT.out ⟨rfl, hE0, hN, k⟩
                      clear HNOT
                      go_wp2_with fail
                      go_roundw
                      case rel => exact ⟨j + 1, by simp, by omega, HB7⟩
                      case measure => simp [RowKit.intOf] <;> omega
                  · clear HNOT
                    go_wp2_with fail
                    go_roundw
                    case rel => exact ⟨j + 1, by simp, by omega, HB7⟩
                    case measure => simp [RowKit.intOf] <;> omega
                · clear HNOT
                  go_wp2_with fail
                  go_roundw
                  case rel => exact ⟨j + 1, by simp, by omega, HB7⟩
                  case measure => simp [RowKit.intOf] <;> omega
              · have tj : ¬ (j : Int) < (n : Int) := by omega
                go_wp2_with fail
                go_ret
                exact ⟨rfl, HB5.out.trans (hB6.mono HB5.out.size)⟩
          | cons x zs =>
            obtain ⟨wb, hwb⟩ : ∃ wb, wb = wr := ⟨_, rfl⟩
            subst hwb
            have t3 : (ys.length : Int) < (ps.length : Int) := by simp at hlen; omega
            have hly : ys.length < ps.length := by omega
            have hmem : ∀ y ∈ x :: zs, y ∈ ps := fun y hy => by rw [HI.out.1]; exact List.mem_append_right _ hy
            obtain ⟨hx1, K, hK, hKp, hKl, hKv, hKo⟩ := HW1.out x (hmem x (by simp))
            have hsz := snn.out zs (fun y hy => (HW1.out y (hmem y (List.mem_cons_of_mem _ hy))).1)
            have hqx : x.q ≤ l := by
              have h1 := HI.out.1
              have h2 := HI.out.2
              have h3 := HW2.out
              rw [h1, sumP_app] at h3
              have : sumP (x :: zs) = x.q + sumP zs := rfl
              omega
            have hat : ps[ys.length]? = some x := by rw [HI.out.1]; simp
            obtain ⟨b2, rfl, p0, p1⟩ := HPC.out _ _ hat
            have p0' := (hB3.cell (p := ⟨b2, ys.length * 2, none⟩) (World.block_lt_of_cell? _ _ p0)).trans p0
            have p1' := (hB3.cell (p := ⟨b2, ys.length * 2 + 1, none⟩) (World.block_lt_of_cell? _ _ p1)).trans p1
            have HBW : Hid (Below w.heap.size w wb) := HB2.out.trans (hB3.mono HB2.out.size)
            have HNI : Hid (ps = (ys ++ [x]) ++ zs ∧ l - x.q = qty - sumP (ys ++ [x])) := by
              refine ⟨by rw [HI.out.1]; simp, ?_⟩
              rw [sumP_app, HI.out.2]
              show _ = qty - (sumP ys + (x.q + 0))
              omega
            have hap : Hid (∀ y ∈ ys, y.pl ≠ x.pl) := HW5.out ys zs x HI.out.1
            have HYS : Hid (∀ m, m < ys.length → ∃ y, ps[m]? = some y ∧ y ∈ ys) := fun m hm => by
              refine ⟨ys[m], ?_, List.getElem_mem _⟩
              rw [HI.out.1, List.getElem?_append_left hm]
              simp [hm]
            have on1 : onB x.q lot = true := decide_eq_true ⟨by unfold stepBad; omega, hKl⟩
            have hWK := wrong_false (HW.out K hK)
            have on2 : onB x.q (L K).lt = true := decide_eq_true ⟨by unfold stepBad; omega, hKv⟩
            have HUN : Hid (∀ j, j < n → (L j).pl = x.pl → j = K) := fun j hj e => HDD.out j K hj hK (e.trans hKp.symm)
            have HKP : Hid ((L K).pl = x.pl) := hKp
            have G1 := fun w => on_any x.q lot w (by omega) (by omega)
            have G2 := fun w => on_any x.q (L K).lt w (by omega) (by omega)
            rw [on1] at G1
            rw [on2] at G2
            obtain ⟨bK, oK, hbK, cK⟩ := HC.out K hK
            have HKC : Hid (a = some ⟨bK, oK, none⟩ ∧ (∀ W, Below w.heap.size w W → W.cell? ⟨bK, oK + K * 5 + 1, none⟩ = some (.int .i64 (L K).lt) ∧ W.cell? ⟨bK, oK + K * 5 + 4, none⟩ = some (.bool true) ∧ bK < W.heap.size)) := ⟨hbK, fun W hW => by
              have c := cK.below hW
              exact ⟨c.all.2.1, by rw [← hKo]; exact c.all.2.2.2.2, c.lt⟩⟩
            clear hbK cK on1 on2 hKl hKv hKo hWK p0 p1 hmem hsz hat hKp
            generalize (L K).lt = vK at G2 HKC
            obtain ⟨xp, xq⟩ := x
            simp only at p0' p1' hx1 hqx HNI hap HUN HKP G1 G2
            have lb2 := World.block_lt_of_cell? _ _ p0'
            simp only at lb2
            have HX0 : Hid (∀ W, Below (wb.heap.size + 1) (wb.alloc (.cells #[.int .i64 xp, .int .i64 xq] 45)) W → W.cell? ⟨wb.heap.size, 0, none⟩ = some (.int .i64 xp) ∧ W.cell? ⟨wb.heap.size, 1, none⟩ = some (.int .i64 xq) ∧ wb.heap.size < W.heap.size ∧ Below wb.heap.size wb W) := fun W hW =>
              ⟨(hW.cell (p := ⟨wb.heap.size, 0, none⟩) (by simp)).trans (by simp), (hW.cell (p := ⟨wb.heap.size, 1, none⟩) (by simp)).trans (by simp), by have := hW.size; simp at this; omega, ((Below.refl wb.heap.size wb).alloc (Nat.le_refl _) _).trans (hW.mono (by omega))⟩
            go_wp2_with fail
            go_loopw [14, 72] (fun y x wr4 => ∃ (j : Nat) (z : Int), x = .int .i64 (j : Int) ∧ y = .int .i64 z ∧ j ≤ n ∧ Hid ((K < j → z = (K : Int)) ∧ (j ≤ K → z = -1)) ∧ Below (wb.heap.size + 1) (wb.alloc (.cells #[.int .i64 xp, .int .i64 xq] 45)) wr4) (fun _ x _ => n - (RowKit.intOf x).toNat)
            case atStart => exact ⟨0, -1, rfl, rfl, Nat.zero_le _, ⟨fun h => absurd h (Nat.not_lt_zero _), fun _ => rfl⟩, Below.refl _ _⟩
            case round =>
              obtain ⟨j, z, rfl, rfl, hj, HZ, hB4⟩ := hrel
              obtain ⟨x0c, x1c, lx, hB4'⟩ := HX0.out wr hB4
              by_cases hlj : j < n
              · have tj : (j : Int) < (n : Int) := by omega
                obtain ⟨b, o, hbj, cj⟩ := HC.out j hlj
                have cc := (cj.below (HBW.out)).below hB4'
                have HPJ : Hid (((L j).pl = xp → j = K) ∧ (j = K → (L j).pl = xp)) := ⟨fun e => HUN.out j hlj e, fun e => by rw [e]; exact HKP.out⟩
                have lb := cc.lt
                generalize L j = x at cc HPJ
                subst hbj
                obtain ⟨x0, x1, x2, x3, x4⟩ := x
                obtain ⟨c0, c1, c3, c4, c5⟩ := cc.all
                clear cc cj
                simp only at c0 c1 c3 c4 c5 HPJ
                have HZN : Hid (((x0 = xp → (K < j + 1 → (j : Int) = (K : Int)) ∧ (j + 1 ≤ K → (j : Int) = -1))) ∧ (¬ x0 = xp → (K < j + 1 → z = (K : Int)) ∧ (j + 1 ≤ K → z = -1))) := by
                  refine ⟨fun e => ?_, fun e => ⟨fun h => ?_, fun h => HZ.out.2 (by omega)⟩⟩
                  · have := HPJ.out.1 e
                    exact ⟨fun _ => by omega, fun h => by omega⟩
                  · rcases Nat.lt_or_eq_of_le (Nat.le_of_lt_succ h) with c | c
                    · exact HZ.out.1 c
                    · exact absurd (HPJ.out.2 c.symm) e
                clear HPJ HZ
                by_cases hp : x0 = xp
                · have HZ2 := HZN.out.1 hp
                  replace HZN : Hid _ := HZ2
                  clear HZ2
                  subst hp
                  go_wp2_with fail
                  go_roundw
                  case rel => exact ⟨j + 1, (j : Int), by simp, rfl, by omega, HZN.out, hB4.alloc (by omega) _⟩
                  case measure => simp [RowKit.intOf] <;> omega
                · have HZ2 := HZN.out.2 hp
                  replace HZN : Hid _ := HZ2
                  clear HZ2
                  go_wp2_with fail
                  go_roundw
                  case rel => exact ⟨j + 1, z, by simp, rfl, by omega, HZN.out, hB4.alloc (by omega) _⟩
                  case measure => simp [RowKit.intOf] <;> omega
              · have tj : ¬ (j : Int) < (n : Int) := by omega
                obtain rfl : z = (K : Int) := HZ.out.1 (by omega)
                obtain ⟨hba, hcK⟩ := HKC.out
                subst hba
                obtain ⟨k1, k4, lbK⟩ := hcK wr (HBW.out.trans (hB4'.mono HBW.out.size))
                have tK : (K : Int) < (n : Int) := by omega
                have tK0 : decide ((K : Int) < 0) = false := decide_eq_false (by omega)
                have tx1 : decide (xq < 1) = false := decide_eq_false (by omega)
                have txl : decide (l < xq) = false := decide_eq_false (by omega)
                have keep : ∀ {W : World} {q o : Nat} {v : Value}, q < wr.heap.size → Below wr.drew.heap.size wr.drew W → wr.cell? ⟨q, o, none⟩ = some v → W.cell? ⟨q, o, none⟩ = some v := fun hq hb hc => (hb.cell (p := ⟨_, _, none⟩) hq).trans hc
                have tok : True := trivial
                have lx' : wb.heap.size < wr.heap.size := lx
                go_wp2_with fail
                go_region_held3 (fun w' => w'.cell? ⟨wb.heap.size, 1, none⟩ = some (.int .i64 xq) ∧ w'.cell? ⟨bK, oK + K * 5 + 1, none⟩ = some (.int .i64 vK) ∧ w'.cell? ⟨bK, oK + K * 5 + 4, none⟩ = some (.bool true)) (go_keep) (first
                 | (go_at_call 17; clear tok; refine (G1 _).mono ?_; rintro e w5 ⟨rfl, hb5⟩; have f1 := keep lx' hb5 x1c; have f2 := keep lbK hb5 k1; have f3 := keep lbK hb5 k4)
                 | (go_at_call 17; refine (G2 _).mono ?_; rintro e w6 ⟨rfl, hb6⟩; have B6 : Below wr.drew.heap.size wr.drew w6 := hb5.trans (hb6.mono hb5.size); have g1 := keep lx' B6 x1c; have g2 := keep lbK B6 k1; have g3 := keep lbK B6 k4))
                have g0 := keep lx' B6 x0c
                have HB6 : Hid (Below wb.heap.size wb w6) := hB4'.trans (((below_drewN wr.heap.size 1 wr).trans (B6.mono (Nat.le_refl _))).mono (by omega))
                have HG0 : Hid (w6.cell? ⟨wb.heap.size, 0, none⟩ = some (.int .i64 xp) ∧ w6.cell? ⟨wb.heap.size, 1, none⟩ = some (.int .i64 xq) ∧ wb.heap.size < w6.heap.size) := ⟨g0, g1, Nat.lt_of_lt_of_le lx' B6.size⟩
                have ty : (ys.length : Int) ≤ (c2 : Int) := by omega
                have hlen2 : ys.length + zs.length + 1 = ps.length := by simp at hlen; omega
                clear keep G1 G2 hb5 hb6 B6 f1 f2 f3 g0 g1 g2 g3 x0c x1c k1 k4 tK tK0 tx1 txl hcK HKC HKP HUN HX0 HZ hB4 hB4' tj hlen p0' p1'
                go_wp2_with fail
                go_loopw [127] (fun x wr7 => ∃ m : Nat, x = .int .i64 (m : Int) ∧ m ≤ ys.length ∧ Below w6.heap.size w6 wr7) (fun x _ => ys.length - (RowKit.intOf x).toNat)
                case atStart => exact ⟨0, rfl, Nat.zero_le _, Below.refl _ _⟩
                case round =>
                  obtain ⟨m, rfl, hm, hB7⟩ := hrel
                  have z0 := (hB7.cell (p := ⟨wb.heap.size, 0, none⟩) HG0.out.2.2).trans HG0.out.1
                  have z1 := (hB7.cell (p := ⟨wb.heap.size, 1, none⟩) HG0.out.2.2).trans HG0.out.2.1
                  have zl : wb.heap.size < wr.heap.size := Nat.lt_of_lt_of_le HG0.out.2.2 hB7.size
                  by_cases hlm : m < ys.length
                  · have tm : (m : Int) < (ys.length : Int) := by omega
                    obtain ⟨y, hy1, hy2⟩ := HYS.out m hlm
                    have hne := hap.out y hy2
                    obtain ⟨b', e, q0, q1⟩ := HPC.out m y hy1
                    injection e with e
                    injection e with e1 _
                    subst e1
                    have B27 : Below w2.heap.size w2 wr := (hB3.trans (HB6.out.mono hB3.size)).trans (hB7.mono (Nat.le_trans hB3.size HB6.out.size))
                    have q0' := (B27.cell (p := ⟨b2, m * 2, none⟩) (World.block_lt_of_cell? _ _ q0)).trans q0
                    have q1' := (B27.cell (p := ⟨b2, m * 2 + 1, none⟩) (World.block_lt_of_cell? _ _ q1)).trans q1
                    have lb' : b2 < wr.heap.size := World.block_lt_of_cell? _ _ q0'
                    obtain ⟨yp, yq⟩ := y
                    simp only at q0' q1' hne
                    clear q0 q1 hy1 hy2 B27
                    go_wp2_with fail
                    go_roundw
                    case rel => exact ⟨m + 1, by simp, by omega, hB7.alloc hB7.size _⟩
                    case measure => simp [RowKit.intOf] <;> omega
                  · have tm : ¬ (m : Int) < (ys.length : Int) := by omega
                    clear HYS HPC hap
                    go_wp2_with fail
                    go_roundw
                    case rel => exact ⟨ys ++ [⟨xp, xq⟩], zs, l - xq, by simp, rfl, by simp; omega, by omega, by omega, HNI, (hB3.trans (HB6.out.mono hB3.size)).trans (hB7.mono (Nat.le_trans hB3.size HB6.out.size))⟩
                    case measure => simp [RowKit.intOf] <;> omega
      · have F := HFB.out hE wr hB
        have hE2 : ¬ spE qty lot n L = 0 := hE
        generalize spE qty lot n L = E at F hE hE2
        clear HFB HFG HC hE
        go_wp2_with fail
        refine F.mono ?_
        rintro e w2 ⟨rfl, b2⟩
        go_wp2_with fail
        go_ret
        exact ⟨rfl, hB.trans (b2.mono hB.size)⟩
set_option maxRecDepth 100000 in
theorem routerWhole_walk (w : World) (qty : Int) (_hq : -9223372036854775808 ≤ qty ∧ qty ≤ 9223372036854775807) (lot : Int) (_hl : -9223372036854775808 ≤ lot ∧ lot ≤ 9223372036854775807) (v : Value) (n : Nat) (L : Nat → Of) (h : RowL w v n L) :
    Calls Try.prog 6 #[.int .i64 qty, .int .i64 lot, v] w fun e w' => e = .returned (.bool true) ∧ Below w.heap.size w w' := by
  by_cases hn : n ≤ 30
  · exact whole_in w qty lot n L v h hn
  · have t : (30 : Int) < (n : Int) := by omega
    obtain ⟨a, cap, rfl, _⟩ := id h
    clear h hn
    go_enter Try.func6, Try.ntmps6
    go_wp2_with fail
    refine (awake_any w).mono ?_
    rintro e w1 ⟨rfl, B1⟩
    go_wp2_with fail
    go_ret
    exact ⟨rfl, B1⟩
theorem routerWhole_own : ownKnob Try.prog.godebug = none := by kernel_rfl
theorem routerWhole_laidOut : laidOutB Try.prog = true := by kernel_rfl
set_option maxRecDepth 100000 in
theorem routerWhole_lifted (os : Os) (started : os.Started) (H : Type) (enc : TypeId × Value → H) :
    ReturnsInHanded {} Try.checked os 6 .any (Rows.routerWholeSpec.pre6 enc Try.prog Try.f6 Rows.routerWholeRow.domain false) (Rows.routerWholeSpec.post enc Try.prog Try.f6 false true false false) := by
  refine returnsInHanded_of_change (C := Try.checked) routerWhole_own started (by kernel_rfl) Try.func6
    (ChangeSpec.witness6 (enc := enc) (C := Try.checked) false ⟨#[], #[.int .i64 0, .int .i64 0, .slice none 0 0], []⟩ 8 (by kernel_rfl) (by kernel_rfl) (by kernel_rfl) (by kernel_rfl)) ?_
  intro W base args ds gs before hval0 hW hcnd _
  have hval : ∀ (j : Nat) t v, Try.f6.params[j]? = some t → args[j]? = some v → Value.okWide Try.prog W .any base t v := hval0
  have hW' := hW
  obtain ⟨p, q, hA0, hV, rfl, hfz, hnd⟩ := hW
  have hA : DataW.TrodAll enc Try.prog W 0 (fun _ => true) true Try.f6.params.toList args.toList ds p := hA0
  rw [Try.params6] at hA hval
  obtain ⟨v0, vs0, d0, ds0, p0, q0, hargs, rfl, rfl, h0, r0⟩ := trodAll_cons hA
  obtain ⟨v1, vs1, d1, ds1, p1, q1, rfl, rfl, rfl, h1, r1⟩ := trodAll_cons r0
  obtain ⟨v2, vs2, d2, ds2, p2, q2, rfl, rfl, rfl, h2, r2⟩ := trodAll_cons r1
  obtain ⟨rfl, rfl, rfl⟩ := trodAll_nil r2
  obtain rfl : args = #[v0, v1, v2] := by cases args; simp_all
  obtain ⟨rfl, rfl⟩ := trodVars_none hV
  obtain ⟨a0, rfl, rfl, rfl, w0⟩ := open_int Try.underlying3 (hval 0 3 v0 rfl rfl) h0
  have bd0 := bounds_i64 w0
  obtain ⟨a1, rfl, rfl, rfl, w1⟩ := open_int Try.underlying3 (hval 1 3 v1 rfl rfl) h1
  have bd1 := bounds_i64 w1
  obtain ⟨ad2, n2, cap2, rfl⟩ := okWide_slice Try.underlying29 (hval 2 29 v2 rfl rfl)
  have k2 := h2
  have lt2 : ∀ x ∈ p2, x.block < W.heap.size := by obtain ⟨m, hm⟩ := k2; exact DataW.trod_lt m _ _ _ hm
  obtain ⟨X2, ops2⟩ : ∃ X, RowL W (.slice ad2 n2 cap2) n2 X := by obtain ⟨fuel, hf⟩ := h2; exact open_ops hf
  clear hA0 hval0
  simp only [List.append_nil, List.nil_append] at hW'
  refine (routerWhole_walk W a0 bd0 a1 bd1 _ n2 X2 ops2).mono fun e W' ⟨he, bel⟩ => ?_
  subst he
  exact ⟨_, rfl, _, _, _, [], _, [], hW', trodAll_mk1 (shut_bool Try.underlying4 _), (trodAll_cons_mk (shut_int Try.underlying3 w0) (trodAll_cons_mk (shut_int Try.underlying3 w1) (trodAll_cons_mk (Below.trod routerWhole_laidOut (by kernel_rfl) (of_decide_eq_true (by kernel_rfl)) k2 bel lt2) trodAll_mk0))), rfl, bel.frame _, fun h => by cases h⟩

/-- THE STATEMENT. -/
theorem routerWhole_proved : Rows.RouterWholeSaid :=
  OpenClaim.holds_of_wide 6 Try.f6 rfl rfl rfl rfl rfl rfl rfl ⟨rfl, rfl, rfl, rfl, rfl⟩ rfl rfl rfl rfl rfl (by kernel_rfl) Try.func6 (by kernel_rfl)
    (of_decide_eq_true (by kernel_rfl)) (by unfold Func.isWrapper; first | (rw [if_pos (by decide +kernel)]; kernel_rfl) | (rw [if_neg (by decide +kernel)]; exact ⟨rfl, rfl⟩))
    (fun os started H enc _ => routerWhole_lifted os started H enc)
#print axioms routerWhole_proved
end Go.Proofs.Ytbjibmfehphffaa
