/-
  BodyWhole: a body of which every field is asked for as what it is has no error; with one more it has a field too much, told by its tag.
  For every list of texts and every two numbers; of package-level variables the table of the powers of ten is laid.
-/
import Derived.Test.YtbbocekijkpjnaaDoorBodyAwake
import Derived.Test.YtbbocekijkpjnaaDoorBodyName
import Derived.Test.YtbbocekijkpjnaaDoorBodyWholeMath
import Derived.Test.YtbbocekijkpjnaaDoorTagForms
import Derived.Test.YtbbocekijkpjnaaDoorTagDoor
import Derived.Test.YtbbocekijkpjnaaDoorFrame5
import Derived.Test.YtbbocekijkpjnaaDoorCards
import Derived.Test.YtbbocekijkpjnaaDoorTie
import Derived.SevenTiedAt
namespace Go.Proofs.YtbbocekijkpjnaaDoor
open Go.ChangeShapes Go.WideShapes Go.ChangeAt Go.WideMaps Go.WideElems Go.RowKit Go.Lib

theorem grows_two (w0 w : World) (D : ByteArray) (f : Nat → ByteArray) (h : Below w0.heap.size w0 w) :
    Grows w0 25 (w.alloc (.cells #[.int .i64 35, .string tX, .int .i64 400, .string D] 25)) (.slice (some ⟨w.heap.size, 0, none⟩) 2 2) (wholeF D f 0) :=
  ⟨⟨rfl, .inr ⟨w.heap.size, 2, #[.int .i64 35, .string tX, .int .i64 400, .string D], rfl, h.size, heap_alloc_new _ _, Nat.le_refl _, by unfold maxLen; omega, rfl, rfl⟩⟩, h.alloc h.size _⟩
set_option maxRecDepth 1000000 in
set_option maxHeartbeats 16000000 in
theorem whole_main (nv : Value) (m : Nat) (f : Nat → ByteArray) (w : World) (hrow : Row w nv m fun i => .string (f i)) (hm : m ≤ 20) (N : Nat) (hN : N ≤ 9223372036854775807) (M : Int) (h5 : 500 ≤ M) (h9 : M ≤ 999) (P : Pow w) :
    Calls Tryd.prog 3 #[nv, .int .i64 (N : Int), .int .i64 M] w fun e w' => e = .returned (.bool true) ∧ Below w.heap.size w w' := by
  obtain ⟨i0, hi0, hz0, hzs, hzb⟩ := info_parts infoA
  have A := awake11_any w
  have DG := refDigits_all N hN
  have hnum := num_dec hN
  have hDs : (mk (decDigits N)).size ≤ 19 := by rw [mk_size]; exact digits_short 18 N (by omega)
  rw [← mk_list (decDigits N)] at hnum
  obtain ⟨D, hD⟩ : ∃ D, mk (decDigits N) = D := ⟨_, rfl⟩
  rw [hD] at DG hnum hDs
  clear hD
  obtain ⟨a, cap, rfl, r1, r2, r3⟩ := id hrow
  unfold maxLen at r2
  have HROW : Hid (Row w (.slice a m cap) m fun i => .string (f i)) := hrow
  have q1 : ¬ (20 : Int) < (m : Int) := by omega
  have q2 : ¬ (N : Int) < 0 := by omega
  have q3 : ¬ M < 500 := by omega
  have q4 : ¬ 999 < M := by omega
  clear hrow r3
  go_enter Tryd.func3, Tryd.ntmps3
  go_wp2_with fail
  refine A.mono ?_
  rintro e w1 ⟨rfl, b1⟩
  clear A
  go_wp2_with fail
  refine (DG _).mono ?_
  rintro e w2 ⟨rfl, b2⟩
  clear DG
  have G0 := grows_two w w2 D f (b1.trans (b2.mono b1.size))
  have HG0 : Hid (Grows w 25 (w2.alloc (.cells #[.int .i64 35, .string tX, .int .i64 400, .string D] 25)) (.slice (some ⟨w2.heap.size, 0, none⟩) 2 2) (wholeF D f 0)) := G0
  clear G0 b1 b2 q1 q2 q3 q4
  go_wp2_with fail
  go_loopw [7, 47] (fun v i wr => ∃ k : Nat, i = .int .i64 (k : Int) ∧ k ≤ m ∧ Grows w 25 wr v (wholeF D f k)) (fun _ i _ => m - (RowKit.intOf i).toNat)
  case atStart => exact ⟨0, rfl, Nat.zero_le _, HG0.out⟩
  case round =>
    clear HG0
    obtain ⟨k, rfl, hk, Q⟩ := hrel
    obtain ⟨a0, cap0, rfl⟩ := Q.shape
    by_cases hp : k < m
    · have t0 : (k : Int) < (m : Int) := by omega
      obtain ⟨a2, c2, e2, _, _, r4⟩ := HROW.out.below Q.below
      obtain ⟨b2, o2, e3, cj0⟩ := r4 k hp
      have cj : wr.cell? ⟨b2, o2 + k, none⟩ = some (.string (f k)) := cj0
      simp only [Value.slice.injEq] at e2
      obtain ⟨rfl, _, rfl⟩ := e2
      subst e3
      have Q2 := Q.still ((Below.refl _ _).alloc (Nat.le_refl _) (.cells #[.int .i64 (100 + (k : Int)), .string (f k)] 25))
      have hown := Q2.own
      have hz := Q.below.size
      have hcn := cell_fd_new wr (100 + (k : Int), f k) 25
      have hwl := wholeF_len D f k
      have HQ2 : Hid (Grows w 25 (wr.alloc (.cells #[.int .i64 (100 + (k : Int)), .string (f k)] 25)) (.slice a0 (wholeF D f k).length cap0) (wholeF D f k)) := Q2
      have HWM : Hid (wholeF D f (k + 1) = wholeF D f k ++ [(100 + (k : Int), f k)]) := wholeF_more D f k
      have hw1 : (wholeF D f k).length ≤ 22 := by omega
      have HR : Hid (Row w (.slice (some ⟨b2, o2, none⟩) m cap) m fun i => .string (f i)) := HROW.out
      clear Q Q2 r4 hwl cj0
      have wr1 : IntKind.i64.wrap (100 + (k : Int)) = 100 + (k : Int) := by rw [IntKind.wrap_i64]; omega
      generalize wholeF D f k = Lk at *
      generalize f k = sk at *
      go_wp2_with (at_builtin; refine wpList_append_own_at _ rfl _ _ 27 rfl w.heap.size 25 i0 (.agg #[.int .i64 0, .string ⟨#[]⟩]) 2 24 Tryd.underlying27 hi0 hz0 hzs hzb rfl (by decide) _ _ _ rfl hown ⟨wr.heap.size, 0, none⟩ 1 1 (fd2 (100 + (k : Int), sk)) rfl rfl ?hnews (fd2_one _) ?h63 ?hbytes ?hbase ?_)
      case hnews => first | exact hcn | exact fun _ _ h => h
      case h63 => unfold maxLen; omega
      case hbytes => omega
      case hbase => first | omega | (simp; omega)
      intro v5 w5 hown5 hg5 _ _
      have Q5 := HQ2.out.more hg5 hown5
      clear hown5 hg5 hown hcn
      go_wp2_with fail
      go_roundw
      case rel => exact ⟨k + 1, by simp, by omega, by rw [HWM.out]; exact Q5⟩
      case measure => simp [RowKit.intOf]; omega
    · obtain rfl : m = k := by omega
      have t0 : ¬ (m : Int) < (m : Int) := by omega
      have HQ0 : Hid (Grows w 25 wr (.slice a0 (wholeF D f m).length cap0) (wholeF D f m)) := Q
      have hlk : (wholeF D f m).length ≤ 22 := by rw [wholeF_len]; omega
      clear Q
      go_wp2_with fail
      go_loopw [7, 60] (fun v i wr => ∃ q : Nat, i = .int .i64 (q : Int) ∧ ((q ≤ 1 ∧ Grows w 25 wr v (wholeF D f m)) ∨ (q = 2 ∧ Below w.heap.size w wr))) (fun _ i _ => 2 - (RowKit.intOf i).toNat)
      case atStart => exact ⟨0, rfl, .inl ⟨by omega, HQ0.out⟩⟩
      case round =>
        clear HQ0
        obtain ⟨q, rfl, hst⟩ := hrel
        rcases hst with ⟨hq1, Q⟩ | ⟨rfl, HBF⟩
        · rcases (show q = 0 ∨ q = 1 by omega) with rfl | rfl
          · obtain ⟨a1, c1, rfl⟩ := Q.shape
            obtain ⟨wk, hwk⟩ : ∃ wk, wk = wr := ⟨_, rfl⟩
            subst hwk
            clear hlk
            have hlen : (wholeF D f m).length ≤ 64 := by rw [wholeF_len]; omega
            have WH := whole_0 D f m hm
            have DN0 := whole_done_0 D f m hm
            have HQ : Hid (Grows w 25 wk (.slice a1 (wholeF D f m).length c1) (wholeF D f m)) := Q
            have FL := flds_of_own Q.own
            have FS := forms_all (.slice a1 (wholeF D f m).length c1) (wholeF D f m) wk FL (by omega) (P.still Q.below)
            have l35 : lookF (wholeF D f m) 35 = some (tX, true) := by
              obtain ⟨r, hr⟩ := WH.head
              exact lookF_mem WH.nodup (p := (35, tX)) (by rw [hr]; simp)
            have l400 : lookF (wholeF D f m) 400 = some (D, false) := lookF_mem WH.nodup WH.num
            have lname : ∀ j, j < m → lookF (wholeF D f m) (100 + (j : Int)) = some (f j, false) := fun j hj => by
              have := lookF_mem WH.nodup (WH.names j hj)
              rw [this]
              congr 2
              exact beq_false_of_ne (by show ¬ (100 + (j : Int)) = 35; omega)
            have hrng : ∀ p ∈ (wholeF D f m), -9223372036854775808 ≤ p.1 ∧ p.1 ≤ 9223372036854775807 := fun p hp => by
              have := WH.range p hp
              omega
            have hrng2 : ∀ t ∈ (wholeF D f m).map Prod.fst, -9223372036854775808 ≤ t ∧ t ≤ 9223372036854775807 := fun t ht => by
              obtain ⟨p, hp, rfl⟩ := List.mem_map.1 ht
              exact hrng p hp
            obtain ⟨rest, hhead⟩ := WH.head
            have hnd := WH.nodup
            clear Q FL WH
            obtain ⟨x, e0, hx⟩ : ∃ x e0, formsE (wholeF D f m) = (x, e0) := ⟨_, _, rfl⟩
            rw [hx] at FS
            dsimp only at FS
            by_cases he : e0 = 0
            · subst he
              obtain ⟨l64, ok, hcat⟩ := forms_inv hx
              subst hcat
              have hsz := cat_len ok
              have RD := fun w => read_ok (mk (cat (wholeF D f m))) w (by rw [mk_size]; omega) (wholeF D f m) _ (by rw [mk_list]; exact fields_cat ok l64) tX rest hhead hnd hrng l64
              have HN : Hid ((wholeF D f m).length ≤ 64) := l64
              clear hx hsz ok l64 hhead hnd hrng
              generalize mk (cat (wholeF D f m)) = TXT at *
              go_wp2_with fail
              refine FS.mono ?_
              rintro e w3 ⟨rfl, b3⟩
              clear FS
              go_wp2_with fail
              refine (RD _).mono ?_
              rintro e w4 ⟨n0, fb, bm, tv, rfl, hn0, b4, F4⟩
              clear RD
              have K1 := kind_yes F4 tX true l35
              have I1 := int_good F4 (by have := HN.out; omega) 400 (by omega) (by omega) D false l400 (by unfold maxLen; omega) N hnum 0 (N : Int) (by omega) (by omega)
              rw [mark_0 l400] at I1
              have lof := F4.lof
              have lom := F4.lom
              have HB3 : Hid (Below wk.heap.size wk w3) := b3
              have HB4 : Hid (Below w3.heap.size w3 w4) := b4
              clear F4 b3 b4 l35 l400
              go_wp2_with fail
              refine K1.mono ?_
              rintro e w5 ⟨rfl, rfl⟩
              clear K1
              go_wp2_with fail
              refine I1.mono ?_
              rintro e w6 ⟨rfl, F6, c6⟩
              clear I1
              have HF6 : Hid (Frm n0 w6 fb bm ((wholeF D f m).length + 1) tv ((wholeF D f m).map Prod.fst) (markF (wholeF D f m) 0) 0 0) := F6
              have HB6 : Hid (Below w3.heap.size w3 w6) := HB4.out.trans (c6.below HB4.out.size (fun i h => by rcases h with h | h <;> omega))
              clear F6 c6
              go_wp2_with fail
              go_loopw [93] (fun i wr => ∃ j : Nat, i = .int .i64 (j : Int) ∧ j ≤ m ∧ Frm n0 wr fb bm ((wholeF D f m).length + 1 + j) tv ((wholeF D f m).map Prod.fst) (markF (wholeF D f m) j) 0 0 ∧ Below w3.heap.size w3 wr) (fun i _ => m - (RowKit.intOf i).toNat)
              case atStart => exact ⟨0, rfl, Nat.zero_le _, HF6.out, HB6.out⟩
              case round =>
                obtain ⟨j, rfl, hj, FJ, BJ⟩ := hrel
                have BK : Below wk.heap.size wk wr := HB3.out.trans (BJ.mono HB3.out.size)
                have BW : Below w.heap.size w wr := HQ.out.below.trans (BK.mono HQ.out.below.size)
                by_cases hq : j < m
                · have tj : (j : Int) < (m : Int) := by omega
                  obtain ⟨a2, c2, e2, _, _, r4⟩ := HROW.out.below BW
                  obtain ⟨b2, o2, e3, cj0⟩ := r4 j hq
                  have cj : wr.cell? ⟨b2, o2 + j, none⟩ = some (.string (f j)) := cj0
                  simp only [Value.slice.injEq] at e2
                  obtain ⟨rfl, _, rfl⟩ := e2
                  subst e3
                  have lk := mark_at (l := (wholeF D f m)) (j := j) (by omega) (lname j hq)
                  have ms := mark_step (l := (wholeF D f m)) (j := j) (lname j hq)
                  have hcnt : (wholeF D f m).length + 1 + j ≤ 1000000 := by have := HN.out; omega
                  have hname := lname j hq
                  clear r4 cj0
                  cases hv : vldB (f j) with
                  | true =>
                    have NG := name_good FJ hcnt (100 + (j : Int)) (by omega) (by omega) (f j) false lk hv
                    rw [ms] at NG
                    have t5 := some_bytes (vld_size hv)
                    have HBJ : Hid (Below w3.heap.size w3 wr) := BJ
                    clear FJ BJ BK BW lk ms hname lname hv DN0
                    generalize f j = sj at *
                    go_wp2_with fail
                    refine NG.mono ?_
                    rintro e w7 ⟨rfl, F7, c7⟩
                    clear NG
                    have HF7 : Hid (Frm n0 w7 fb bm ((wholeF D f m).length + 1 + j + 1) tv ((wholeF D f m).map Prod.fst) (markF (wholeF D f m) (j + 1)) 0 0) := F7
                    have HB7 : Hid (Below w3.heap.size w3 w7) := HBJ.out.trans (c7.below HBJ.out.size (fun i h => by rcases h with h | h <;> omega))
                    clear F7 c7
                    go_wp2_with fail
                    go_roundw
                    case rel => exact ⟨j + 1, by simp, by omega, HF7.out, HB7.out⟩
                    case measure => simp [RowKit.intOf]; omega
                  | false =>
                    have NB := name_bad FJ (100 + (j : Int)) (by omega) (by omega) (f j) false lk hv
                    have HBW : Hid (Below w.heap.size w wr) := BW
                    have hz3 : w.heap.size ≤ w3.heap.size := Nat.le_trans HQ.out.below.size HB3.out.size
                    clear FJ BJ BK BW lk ms hname lname hv DN0
                    generalize f j = sj at *
                    go_wp2_with fail
                    refine NB.mono ?_
                    rintro e w7 ⟨rfl, F7, c7⟩
                    clear NB
                    have D7 := done_err F7 (by omega)
                    have HB7 : Hid (Below w.heap.size w w7) := HBW.out.trans (c7.below HBW.out.size (fun i h => by rcases h with h | h <;> omega))
                    clear F7 c7
                    go_wp2_with fail
                    refine D7.mono ?_
                    rintro e w8 ⟨rfl, b8⟩
                    clear D7
                    have B8 := HB7.out.trans (b8.mono HB7.out.size)
                    clear b8
                    go_wp2_with fail
                    go_ret
                    exact ⟨rfl, B8⟩
                · obtain rfl : j = m := by omega
                  have tj : ¬ (j : Int) < (j : Int) := by omega
                  have DN := done_ok FJ hrng2
                  rw [DN0] at DN
                  dsimp only at DN
                  have BE := BK
                  have HBE : Hid (Below wk.heap.size wk wr) := BE
                  clear FJ BJ BK BW BE lname hrng2 DN0
                  go_wp2_with fail
                  refine DN.mono ?_
                  rintro e w8 ⟨rfl, rfl⟩
                  clear DN
                  go_wp2_with fail
                  go_roundw
                  case rel =>
                    have BE := HBE.out
                    exact ⟨1, by simp, .inl ⟨by omega, HQ.out.still BE⟩⟩
                  case measure => simp [RowKit.intOf]
            · have hE : x = [] := by
                have := forms_err (L := (wholeF D f m)) (by rw [hx]; exact he)
                rw [hx] at this
                exact this
              subst hE
              have t7 : ((e0 : Int) == 0) = false := beq_false_of_ne (by omega)
              have HB : Hid (Below w.heap.size w wk) := HQ.out.below
              rw [show mk [] = (⟨#[]⟩ : ByteArray) from rfl] at FS
              clear hx he hlen DN0 hrng hrng2 lname l35 l400 hhead hnd
              go_wp2_with fail
              refine FS.mono ?_
              rintro e w3 ⟨rfl, b3⟩
              have B3 := HB.out.trans (b3.mono HB.out.size)
              clear b3
              go_wp2_with fail
              go_ret
              exact ⟨rfl, B3⟩
          · obtain ⟨a3, c3, rfl⟩ := Q.shape
            have Q2 := Q.still ((Below.refl _ _).alloc (Nat.le_refl _) (.cells #[.int .i64 M, .string tY] 25))
            have hown := Q2.own
            have hz := Q.below.size
            have hcn := cell_fd_new wr (M, tY) 25
            have HQ2 : Hid (Grows w 25 (wr.alloc (.cells #[.int .i64 M, .string tY] 25)) (.slice a3 (wholeF D f m).length c3) (wholeF D f m)) := Q2
            clear Q Q2
            go_wp2_with (at_builtin; refine wpList_append_own_at _ rfl _ _ 27 rfl w.heap.size 25 i0 (.agg #[.int .i64 0, .string ⟨#[]⟩]) 2 24 Tryd.underlying27 hi0 hz0 hzs hzb rfl (by decide) _ _ _ rfl hown ⟨wr.heap.size, 0, none⟩ 1 1 (fd2 (M, tY)) rfl rfl ?hnews (fd2_one _) ?h63 ?hbytes ?hbase ?_)
            case hnews => first | exact hcn | exact fun _ _ h => h
            case h63 => unfold maxLen; omega
            case hbytes => omega
            case hbase => first | omega | (simp; omega)
            intro v5 wk hown5 hg5 _ _
            have Q : Grows w 25 wk v5 (wholeM D f m M) := HQ2.out.more hg5 hown5
            clear hown5 hg5 hown hcn HQ2 hz hlk
            obtain ⟨a1, c1, rfl⟩ := Q.shape
            have hlen : (wholeM D f m M).length ≤ 64 := by rw [wholeM_len]; omega
            have WH := whole_M D f m hm M h5 h9
            have DN0 := whole_done_M D f m hm M h5 h9
            have HQ : Hid (Grows w 25 wk (.slice a1 (wholeM D f m M).length c1) (wholeM D f m M)) := Q
            have FL := flds_of_own Q.own
            have FS := forms_all (.slice a1 (wholeM D f m M).length c1) (wholeM D f m M) wk FL (by omega) (P.still Q.below)
            have l35 : lookF (wholeM D f m M) 35 = some (tX, true) := by
              obtain ⟨r, hr⟩ := WH.head
              exact lookF_mem WH.nodup (p := (35, tX)) (by rw [hr]; simp)
            have l400 : lookF (wholeM D f m M) 400 = some (D, false) := lookF_mem WH.nodup WH.num
            have lname : ∀ j, j < m → lookF (wholeM D f m M) (100 + (j : Int)) = some (f j, false) := fun j hj => by
              have := lookF_mem WH.nodup (WH.names j hj)
              rw [this]
              congr 2
              exact beq_false_of_ne (by show ¬ (100 + (j : Int)) = 35; omega)
            have hrng : ∀ p ∈ (wholeM D f m M), -9223372036854775808 ≤ p.1 ∧ p.1 ≤ 9223372036854775807 := fun p hp => by
              have := WH.range p hp
              omega
            have hrng2 : ∀ t ∈ (wholeM D f m M).map Prod.fst, -9223372036854775808 ≤ t ∧ t ≤ 9223372036854775807 := fun t ht => by
              obtain ⟨p, hp, rfl⟩ := List.mem_map.1 ht
              exact hrng p hp
            obtain ⟨rest, hhead⟩ := WH.head
            have hnd := WH.nodup
            clear Q FL WH
            obtain ⟨x, e0, hx⟩ : ∃ x e0, formsE (wholeM D f m M) = (x, e0) := ⟨_, _, rfl⟩
            rw [hx] at FS
            dsimp only at FS
            by_cases he : e0 = 0
            · subst he
              obtain ⟨l64, ok, hcat⟩ := forms_inv hx
              subst hcat
              have hsz := cat_len ok
              have RD := fun w => read_ok (mk (cat (wholeM D f m M))) w (by rw [mk_size]; omega) (wholeM D f m M) _ (by rw [mk_list]; exact fields_cat ok l64) tX rest hhead hnd hrng l64
              have HN : Hid ((wholeM D f m M).length ≤ 64) := l64
              clear hx hsz ok l64 hhead hnd hrng
              generalize mk (cat (wholeM D f m M)) = TXT at *
              go_wp2_with fail
              refine FS.mono ?_
              rintro e w3 ⟨rfl, b3⟩
              clear FS
              go_wp2_with fail
              refine (RD _).mono ?_
              rintro e w4 ⟨n0, fb, bm, tv, rfl, hn0, b4, F4⟩
              clear RD
              have K1 := kind_yes F4 tX true l35
              have I1 := int_good F4 (by have := HN.out; omega) 400 (by omega) (by omega) D false l400 (by unfold maxLen; omega) N hnum 0 (N : Int) (by omega) (by omega)
              rw [mark_0 l400] at I1
              have lof := F4.lof
              have lom := F4.lom
              have HB3 : Hid (Below wk.heap.size wk w3) := b3
              have HB4 : Hid (Below w3.heap.size w3 w4) := b4
              clear F4 b3 b4 l35 l400
              go_wp2_with fail
              refine K1.mono ?_
              rintro e w5 ⟨rfl, rfl⟩
              clear K1
              go_wp2_with fail
              refine I1.mono ?_
              rintro e w6 ⟨rfl, F6, c6⟩
              clear I1
              have HF6 : Hid (Frm n0 w6 fb bm ((wholeM D f m M).length + 1) tv ((wholeM D f m M).map Prod.fst) (markF (wholeM D f m M) 0) 0 0) := F6
              have HB6 : Hid (Below w3.heap.size w3 w6) := HB4.out.trans (c6.below HB4.out.size (fun i h => by rcases h with h | h <;> omega))
              clear F6 c6
              go_wp2_with fail
              go_loopw [93] (fun i wr => ∃ j : Nat, i = .int .i64 (j : Int) ∧ j ≤ m ∧ Frm n0 wr fb bm ((wholeM D f m M).length + 1 + j) tv ((wholeM D f m M).map Prod.fst) (markF (wholeM D f m M) j) 0 0 ∧ Below w3.heap.size w3 wr) (fun i _ => m - (RowKit.intOf i).toNat)
              case atStart => exact ⟨0, rfl, Nat.zero_le _, HF6.out, HB6.out⟩
              case round =>
                obtain ⟨j, rfl, hj, FJ, BJ⟩ := hrel
                have BK : Below wk.heap.size wk wr := HB3.out.trans (BJ.mono HB3.out.size)
                have BW : Below w.heap.size w wr := HQ.out.below.trans (BK.mono HQ.out.below.size)
                by_cases hq : j < m
                · have tj : (j : Int) < (m : Int) := by omega
                  obtain ⟨a2, c2, e2, _, _, r4⟩ := HROW.out.below BW
                  obtain ⟨b2, o2, e3, cj0⟩ := r4 j hq
                  have cj : wr.cell? ⟨b2, o2 + j, none⟩ = some (.string (f j)) := cj0
                  simp only [Value.slice.injEq] at e2
                  obtain ⟨rfl, _, rfl⟩ := e2
                  subst e3
                  have lk := mark_at (l := (wholeM D f m M)) (j := j) (by omega) (lname j hq)
                  have ms := mark_step (l := (wholeM D f m M)) (j := j) (lname j hq)
                  have hcnt : (wholeM D f m M).length + 1 + j ≤ 1000000 := by have := HN.out; omega
                  have hname := lname j hq
                  clear r4 cj0
                  cases hv : vldB (f j) with
                  | true =>
                    have NG := name_good FJ hcnt (100 + (j : Int)) (by omega) (by omega) (f j) false lk hv
                    rw [ms] at NG
                    have t5 := some_bytes (vld_size hv)
                    have HBJ : Hid (Below w3.heap.size w3 wr) := BJ
                    clear FJ BJ BK BW lk ms hname lname hv DN0
                    generalize f j = sj at *
                    go_wp2_with fail
                    refine NG.mono ?_
                    rintro e w7 ⟨rfl, F7, c7⟩
                    clear NG
                    have HF7 : Hid (Frm n0 w7 fb bm ((wholeM D f m M).length + 1 + j + 1) tv ((wholeM D f m M).map Prod.fst) (markF (wholeM D f m M) (j + 1)) 0 0) := F7
                    have HB7 : Hid (Below w3.heap.size w3 w7) := HBJ.out.trans (c7.below HBJ.out.size (fun i h => by rcases h with h | h <;> omega))
                    clear F7 c7
                    go_wp2_with fail
                    go_roundw
                    case rel => exact ⟨j + 1, by simp, by omega, HF7.out, HB7.out⟩
                    case measure => simp [RowKit.intOf]; omega
                  | false =>
                    have NB := name_bad FJ (100 + (j : Int)) (by omega) (by omega) (f j) false lk hv
                    have HBW : Hid (Below w.heap.size w wr) := BW
                    have hz3 : w.heap.size ≤ w3.heap.size := Nat.le_trans HQ.out.below.size HB3.out.size
                    clear FJ BJ BK BW lk ms hname lname hv DN0
                    generalize f j = sj at *
                    go_wp2_with fail
                    refine NB.mono ?_
                    rintro e w7 ⟨rfl, F7, c7⟩
                    clear NB
                    have D7 := done_err F7 (by omega)
                    have HB7 : Hid (Below w.heap.size w w7) := HBW.out.trans (c7.below HBW.out.size (fun i h => by rcases h with h | h <;> omega))
                    clear F7 c7
                    go_wp2_with fail
                    refine D7.mono ?_
                    rintro e w8 ⟨rfl, b8⟩
                    clear D7
                    have B8 := HB7.out.trans (b8.mono HB7.out.size)
                    clear b8
                    go_wp2_with fail
                    go_ret
                    exact ⟨rfl, B8⟩
                · obtain rfl : j = m := by omega
                  have tj : ¬ (j : Int) < (j : Int) := by omega
                  have DN := done_ok FJ hrng2
                  rw [DN0] at DN
                  dsimp only at DN
                  have BE := BK
                  have HBE : Hid (Below wk.heap.size wk wr) := BE
                  clear FJ BJ BK BW BE lname hrng2 DN0
                  go_wp2_with fail
                  refine DN.mono ?_
                  rintro e w8 ⟨rfl, rfl⟩
                  clear DN
                  go_wp2_with fail
                  go_roundw
                  case rel =>
                    have BE := HBE.out
                    exact ⟨2, by simp, .inr ⟨rfl, HQ.out.below.trans (BE.mono HQ.out.below.size)⟩⟩
                  case measure => simp [RowKit.intOf]
            · have hE : x = [] := by
                have := forms_err (L := (wholeM D f m M)) (by rw [hx]; exact he)
                rw [hx] at this
                exact this
              subst hE
              have t7 : ((e0 : Int) == 0) = false := beq_false_of_ne (by omega)
              have HB : Hid (Below w.heap.size w wk) := HQ.out.below
              rw [show mk [] = (⟨#[]⟩ : ByteArray) from rfl] at FS
              clear hx he hlen DN0 hrng hrng2 lname l35 l400 hhead hnd
              go_wp2_with fail
              refine FS.mono ?_
              rintro e w3 ⟨rfl, b3⟩
              have B3 := HB.out.trans (b3.mono HB.out.size)
              clear b3
              go_wp2_with fail
              go_ret
              exact ⟨rfl, B3⟩
        · have HB : Hid (Below w.heap.size w wr) := HBF
          clear HBF
          go_wp2_with fail
          go_ret
          exact ⟨rfl, HB.out⟩
set_option maxRecDepth 100000 in
set_option maxHeartbeats 4000000 in
theorem bodyWhole_walk (w : World) (nv : Value) (m : Nat) (f : Nat → ByteArray) (hrow : Row w nv m fun i => .string (f i)) (n : Int) (hn : -9223372036854775808 ≤ n ∧ n ≤ 9223372036854775807) (M : Int) (_hM : -9223372036854775808 ≤ M ∧ M ≤ 9223372036854775807) (P : Pow w) :
    Calls Tryd.prog 3 #[nv, .int .i64 n, .int .i64 M] w fun e w' => e = .returned (.bool true) ∧ Below w.heap.size w w' := by
  by_cases h : m ≤ 20 ∧ 0 ≤ n ∧ 500 ≤ M ∧ M ≤ 999
  · obtain ⟨N, rfl⟩ : ∃ N : Nat, n = (N : Int) := ⟨n.toNat, by omega⟩
    exact whole_main nv m f w hrow h.1 N (by omega) M h.2.2.1 h.2.2.2 P
  · have A := awake11_any w
    obtain ⟨a, cap, rfl, r1, r2, r3⟩ := id hrow
    unfold maxLen at r2
    clear r3 hrow
    by_cases q1 : (20 : Int) < (m : Int)
    · clear h
      go_enter Tryd.func3, Tryd.ntmps3
      go_wp2_with fail
      refine A.mono ?_
      rintro e w1 ⟨rfl, b1⟩
      go_wp2_with fail
      go_ret
      exact ⟨rfl, b1⟩
    by_cases q2 : n < 0
    · clear h
      go_enter Tryd.func3, Tryd.ntmps3
      go_wp2_with fail
      refine A.mono ?_
      rintro e w1 ⟨rfl, b1⟩
      go_wp2_with fail
      go_ret
      exact ⟨rfl, b1⟩
    by_cases q3 : M < 500
    · clear h
      go_enter Tryd.func3, Tryd.ntmps3
      go_wp2_with fail
      refine A.mono ?_
      rintro e w1 ⟨rfl, b1⟩
      go_wp2_with fail
      go_ret
      exact ⟨rfl, b1⟩
    have q4 : 999 < M := by omega
    clear h
    go_enter Tryd.func3, Tryd.ntmps3
    go_wp2_with fail
    refine A.mono ?_
    rintro e w1 ⟨rfl, b1⟩
    go_wp2_with fail
    go_ret
    exact ⟨rfl, b1⟩
set_option maxRecDepth 100000 in
theorem bodyWhole_lifted (os : Os) (started : os.Started) (H : Type) (enc : TypeId × Value → H) :
    ReturnsInHanded {} Tryd.checked os 3 .any (fun w args => (Rows.bodyWholeSpec.pre enc Tryd.prog Tryd.f3 [] false w args ∧ laidMetH Tryd.prog Rows.bodyWholeRow.laid w) ∧ sizedMet enc Tryd.prog Tryd.f3 (OpenSpec.ofChange Rows.bodyWholeSpec) false w args)
      (Rows.bodyWholeSpec.post enc Tryd.prog Tryd.f3 false true false false) := by
  refine returnsInHanded_of_change_and (C := Tryd.checked) (X := fun w _ => laidMetH Tryd.prog laid8 w) (fun _ _ _ hh h => h.of_heap hh) own8 started (by kernel_rfl) Tryd.func3
    (ChangeSpec.witness_shaped (enc := enc) (C := Tryd.checked) (os := os) (X := fun w _ => laidMetH Tryd.prog laid8 w) false (World.doorLaid Tryd.prog 400 os) #[.slice none 0 0, .int .i64 0, .int .i64 0] 8 rfl (World.shaped_of_RefB (by kernel_rfl) (by kernel_rfl)) (by kernel_rfl) (by kernel_rfl) (by kernel_rfl) (door_met os _)) ?_
  intro W base args ds gs before hval0 hW _ _ hL _
  have hval : ∀ (j : Nat) t v, Tryd.f3.params[j]? = some t → args[j]? = some v → Value.okWide Tryd.prog W .any base t v := hval0
  have hW' := hW
  obtain ⟨p, q, hA0, hV, rfl, hfz, hnd⟩ := hW
  have hA : DataW.TrodAll enc Tryd.prog W 0 (fun _ => true) true Tryd.f3.params.toList args.toList ds p := hA0
  rw [Tryd.params3] at hA hval
  obtain ⟨v0, vs0, d0, ds0, p0, q0, hargs, rfl, rfl, h0, r0⟩ := trodAll_cons hA
  obtain ⟨v1, vs1, d1, ds1, p1, q1, rfl, rfl, rfl, h1, r1⟩ := trodAll_cons r0
  obtain ⟨v2, vs2, d2, ds2, p2, q2, rfl, rfl, rfl, h2, r2⟩ := trodAll_cons r1
  obtain ⟨rfl, rfl, rfl⟩ := trodAll_nil r2
  obtain rfl : args = #[v0, v1, v2] := by cases args; simp_all
  obtain ⟨rfl, rfl⟩ := trodVars_none hV
  obtain ⟨ad0, n0, cap0, rfl⟩ := okWide_slice Tryd.underlying22 (hval 0 22 v0 rfl rfl)
  have k0 := h0
  have lt0 : ∀ x ∈ p0, x.block < W.heap.size := by obtain ⟨m, hm⟩ := k0; exact DataW.trod_lt m _ _ _ hm
  obtain ⟨f0, row0⟩ : ∃ f : Nat → ByteArray, Row W (.slice ad0 n0 cap0) n0 fun i => .string (f i) := by obtain ⟨fuel, hf⟩ := h0; exact open_texts Tryd.underlying22 Tryd.underlying9 (by kernel_rfl) hf
  obtain ⟨a1, rfl, rfl, rfl, w1⟩ := open_int Tryd.underlying3 (hval 1 3 v1 rfl rfl) h1
  have bd1 := bounds_i64 w1
  obtain ⟨a2, rfl, rfl, rfl, w2⟩ := open_int Tryd.underlying3 (hval 2 3 v2 rfl rfl) h2
  have bd2 := bounds_i64 w2
  clear hA0 hval0
  simp only [List.append_nil] at hW'
  refine (bodyWhole_walk W _ n0 f0 row0 a1 bd1 a2 bd2 (pow_of_laid hL)).mono fun e W' ⟨he, bel⟩ => ?_
  subst he
  exact ⟨_, rfl, _, _, _, [], _, [], hW', trodAll_mk1 (shut_bool Tryd.underlying4 _), (trodAll_cons_mk (Below.trod laidOut8 (by kernel_rfl) (of_decide_eq_true (by kernel_rfl)) k0 bel lt0) (trodAll_cons_mk (shut_int Tryd.underlying3 w1) (trodAll_cons_mk (shut_int Tryd.underlying3 w2) trodAll_mk0))), rfl, bel.frame _, fun h => by cases h⟩

/-- The row. -/
theorem bodyWhole_row : Rows.BodyWholeSaid :=
  OpenClaim.holds_of_wide 3 Tryd.f3 rfl rfl rfl rfl rfl rfl rfl ⟨rfl, rfl, rfl, rfl, rfl⟩ rfl rfl rfl rfl rfl (by kernel_rfl) Tryd.func3 (by kernel_rfl)
    (of_decide_eq_true (by kernel_rfl)) (by unfold Func.isWrapper; first | (rw [if_pos (by decide +kernel)]; kernel_rfl) | (rw [if_neg (by decide +kernel)]; exact ⟨rfl, rfl⟩))
    (fun os started H enc _ => bodyWhole_lifted os started H enc)
/-- THE STATEMENT: the tied card. -/
theorem bodyWhole_proved : Rows.BodyWholeCardSaid :=
  Claim7.holds_tied_plain_at .later [] Rows.bodyWholeCard.laidKinds true Rows.bodyWholeCard.stood.harness Rows.bodyWholeCard.stood.looks
    bodyWhole_row (fun _ h => by cases h) (by kernel_rfl) (fun _ h => by cases h) bodyWhole_row_tie rfl ⟨rfl, rfl⟩ (by kernel_rfl) rfl
    (fun f fn hf hfn => by
      obtain rfl : f = 3 := Option.some.inj ((show Tryd.prog.funcNamed Rows.bodyWholeRow.func = some 3 by kernel_rfl).symm.trans hf) |>.symm
      obtain rfl : fn = Tryd.f3 := (Option.some.inj (Tryd.func3.symm.trans hfn)).symm
      exact ⟨by kernel_rfl, fun j t ht => by
        rw [Tryd.params3] at ht
        have hm : t ∈ [22, 3, 3] := by simpa using Array.mem_of_getElem? ht
        have hall : ([22, 3, 3].all fun u => !Tryd.prog.wantsStandIn u) = true := by kernel_rfl
        exact (show Tryd.prog.wantsStandIn t = false by simpa using List.all_eq_true.1 hall t hm)⟩)
    (by kernel_rfl)
#print axioms bodyWhole_proved
end Go.Proofs.YtbbocekijkpjnaaDoor
