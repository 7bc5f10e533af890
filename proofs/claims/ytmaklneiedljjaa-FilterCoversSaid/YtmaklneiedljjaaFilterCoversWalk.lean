/-
  FilterCovers, walked: a filter covers another one just if it lets in whatever that lets in; what covers what covers, covers.
-/
import Derived.Test.YtmaklneiedljjaaB11n
import Derived.Deep.DeepCutAuto
import Derived.Sort.Walk7a
namespace Go.Proofs.Ytmaklneiedljjaa
open Go.RowKit Go.Sort
set_option linter.unusedVariables false
set_option linter.unusedSimpArgs false

theorem or_u32c (a b : Nat) (ha : a < 4294967296) (hb : b < 4294967296) : bits .or .u32 (a : Int) (b : Int) = ((a ||| b : Nat) : Int) := (u32_bits a b ha hb).2

theorem bxor_u32c {a b : Nat} (ha : a < 4294967296) (hb : b < 4294967296) : bits BinOp.xor IntKind.u32 (a : Int) (b : Int) = ((a ^^^ b : Nat) : Int) := by
  show IntKind.u32.wrap ((BitVec.ofInt 32 (a : Int) ^^^ BitVec.ofInt 32 (b : Int)).toNat : Int) = _
  have e2 : (BitVec.ofInt 32 (a : Int) ^^^ BitVec.ofInt 32 (b : Int)).toNat = a ^^^ b := by
    rw [BitVec.ofInt_natCast, BitVec.ofInt_natCast, BitVec.toNat_xor, BitVec.toNat_ofNat, BitVec.toNat_ofNat, Nat.mod_eq_of_lt ha, Nat.mod_eq_of_lt hb]
  rw [e2]
  exact IntWalk.u32_in _ (by have := Nat.xor_lt_two_pow (n := 32) ha hb; omega)
theorem shl_u32c (kb : Nat) (h : kb ≤ 30) : Op.shift .shl .u32 1 .i64 (kb : Int) = pure (.int .u32 ((2 ^ kb : Nat) : Int)) := by
  have h2 : (2 : Nat) ^ kb ≤ 2 ^ 30 := Nat.pow_le_pow_right (by decide) h
  rw [shift_shl .u32 .i64 1 _ (by omega) (by show ((kb : Nat) : Int) ≤ 32; omega), Int.one_mul, Int.toNat_natCast, show ((2 : Int) ^ kb) = ((2 ^ kb : Nat) : Int) by push_cast; rfl]
  generalize (2 : Nat) ^ kb = p at *
  congr 2
  exact IntWalk.u32_in _ (by omega)

set_option maxRecDepth 100000 in
set_option maxHeartbeats 16000000 in
theorem filterCovers_walk (w : World) (x y z : Fi) (id : Nat) (hx : x.Ok) (hy : y.Ok) (hz : z.Ok) (hi : id < 4294967296) :
    Calls Try.prog 4 #[.agg (fiV x), .agg (fiV y), .agg (fiV z), .int .u32 (id : Int)] w fun q w' => q = .returned (.bool true) ∧ RowKit.Below w.heap.size w w' := by
  obtain ⟨g1, g2, w0, hw0, hg1, hg2, a0, b0, c0, gg0, l1, l2⟩ : ∃ g1 g2 w0, Hid (((w.alloc (.cells (fiV x) 25)).alloc (.cells (fiV y) 25)).alloc (.cells (fiV z) 25) = w0) ∧ Hid (w.heap.size + 1 = g1) ∧ Hid (w.heap.size + 1 + 1 = g2) ∧
      w0.heap[w.heap.size]? = some (.cells (fiV x) 25 (0, 0)) ∧ w0.heap[g1]? = some (.cells (fiV y) 25 (0, 0)) ∧ w0.heap[g2]? = some (.cells (fiV z) 25 (0, 0)) ∧ RowKit.Below w.heap.size w w0 ∧ w.heap.size < g1 ∧ g1 < g2 :=
    ⟨_, _, _, rfl, rfl, rfl, bx_alloc _ (bx_alloc _ (heap_alloc_new w _)), bx_alloc _ (by have := heap_alloc_new (w.alloc (.cells (fiV x) 25)) (.cells (fiV y) 25); rwa [heap_size_alloc] at this), by have := heap_alloc_new ((w.alloc (.cells (fiV x) 25)).alloc (.cells (fiV y) 25)) (.cells (fiV z) 25); rwa [heap_size_alloc, heap_size_alloc] at this, bnew (bnew (bnew0 w _) _) _, by omega, by omega⟩
  have kA := hid (fun w => mk_any x hx w)
  have kB := hid (fun w => mk_any y hy w)
  have kC := hid (fun w => mk_any z hz w)
  have hA := mkF_right x
  have hB := mkF_right y
  have hAo : (mkF x).Ok := mkF_ok
  have hBo : (mkF y).Ok := mkF_ok
  have hCo : (mkF z).Ok := mkF_ok
  generalize mkF x = A at *
  generalize mkF y = B at *
  generalize mkF z = C at *
  go_enter Try.func4, Try.ntmps4
  go_wp2_with (rw [hw0.out, hg2.out, hg1.out])
  clear hw0 hg1 hg2
  have HS : (w0.drew.heap[w.heap.size]? = some (.cells (fiV x) 25 (0, 0)) ∧ w0.drew.heap[g1]? = some (.cells (fiV y) 25 (0, 0)) ∧ w0.drew.heap[g2]? = some (.cells (fiV z) 25 (0, 0))) := ⟨a0, b0, c0⟩
  refine Rest.begin (S := fun w' => w'.heap[w.heap.size]? = some (.cells (fiV x) 25 (0, 0)) ∧ w'.heap[g1]? = some (.cells (fiV y) 25 (0, 0)) ∧ w'.heap[g2]? = some (.cells (fiV z) 25 (0, 0))) (X := [1, 3, 5]) (by kernel_rfl) ?_
  change Rest _ _ _ _ _ _ _ _ _ w0.drew
  refine Rest.takeS (i := 0) (v := .agg (fiV x)) rfl (by kernel_rfl) (by kernel_rfl) (by kernel_rfl) (by kernel_rfl) (fun _ _ _ h => h) HS (yields_loadR rowFi (by simp [Region.wanted]) _ rfl w.heap.size (by simp [Act.eval]) _ rfl (fun w' hw => ⟨_, _, hw.1⟩)) ?_
  refine Rest.takeS (i := 2) (v := .agg (fiV y)) rfl (by kernel_rfl) (by kernel_rfl) (by kernel_rfl) (by kernel_rfl) (fun _ _ _ h => h) HS (yields_loadR rowFi (by simp [Region.wanted]) _ rfl g1 (by simp [Act.eval, Act.put]) _ rfl (fun w' hw => ⟨_, _, hw.2.1⟩)) ?_
  refine Rest.takeS (i := 4) (v := .agg (fiV z)) rfl (by kernel_rfl) (by kernel_rfl) (by kernel_rfl) (by kernel_rfl) (fun _ _ _ h => h) HS (yields_loadR rowFi (by simp [Region.wanted]) _ rfl g2 (by simp [Act.eval, Act.put]) _ rfl (fun w' hw => ⟨_, _, hw.2.2⟩)) ?_
  refine Rest.one (i := 1) (by kernel_rfl) rfl (fun K hK => ?_)
  refine draw_callF 20 (by kernel_rfl) (by simp [Region.wanted]) _ _ _ rfl (by simp [Act.eval]) #[.agg (fiV x)] (by simp [Act.eval, Act.put]) _ (kA.out _) ?_
  rintro q w1 ⟨rfl, k1⟩
  refine ⟨_, rfl, ?_⟩
  have S1 : w1.heap[w.heap.size]? = some (.cells (fiV x) 25 (0, 0)) ∧ w1.heap[g1]? = some (.cells (fiV y) 25 (0, 0)) ∧ w1.heap[g2]? = some (.cells (fiV z) 25 (0, 0)) := ⟨bx_below HS.1 k1, bx_below HS.2.1 k1, bx_below HS.2.2 k1⟩
  refine hK _ _ ⟨.inl S1, ?_⟩; clear hK K
  refine Rest.one (i := 3) (by kernel_rfl) rfl (fun K hK => ?_)
  refine draw_callF 20 (by kernel_rfl) (by simp [Region.wanted]) _ _ _ rfl (by simp [Act.eval]) #[.agg (fiV y)] (by simp [Act.eval, Act.put]) _ (kB.out _) ?_
  rintro q w2 ⟨rfl, k2⟩
  refine ⟨_, rfl, ?_⟩
  have S2 : w2.heap[w.heap.size]? = some (.cells (fiV x) 25 (0, 0)) ∧ w2.heap[g1]? = some (.cells (fiV y) 25 (0, 0)) ∧ w2.heap[g2]? = some (.cells (fiV z) 25 (0, 0)) := ⟨bx_below S1.1 k2, bx_below S1.2.1 k2, bx_below S1.2.2 k2⟩
  refine hK _ _ ⟨.inl S2, ?_⟩; clear hK K
  refine Rest.one (i := 5) (by kernel_rfl) rfl (fun K hK => ?_)
  refine draw_callF 20 (by kernel_rfl) (by simp [Region.wanted]) _ _ _ rfl (by simp [Act.eval]) #[.agg (fiV z)] (by simp [Act.eval, Act.put]) _ (kC.out _) ?_
  rintro q w3 ⟨rfl, k3⟩
  refine ⟨_, rfl, ?_⟩
  have S3 : w3.heap[w.heap.size]? = some (.cells (fiV x) 25 (0, 0)) ∧ w3.heap[g1]? = some (.cells (fiV y) 25 (0, 0)) ∧ w3.heap[g2]? = some (.cells (fiV z) 25 (0, 0)) := ⟨bx_below S2.1 k3, bx_below S2.2.1 k3, bx_below S2.2.2 k3⟩
  refine hK _ _ ⟨.inr (thru_of (by kernel_rfl)), Rest.of_any _ _ _ _ (thru_of (by kernel_rfl)) ?_⟩; clear hK K
  have gg3 : RowKit.Below w.heap.size w w3 := bstep (bstep (bstep gg0.drew k1) k2) k3
  have s2 : (w3.setRow w.heap.size (fiV A)).heap[g1]? = some (.cells (fiV y) 25 (0, 0)) := (setRow_other _ _ _ _ (Nat.ne_of_gt l1)).trans S3.2.1
  have s3 : ((w3.setRow w.heap.size (fiV A)).setRow g1 (fiV B)).heap[g2]? = some (.cells (fiV z) 25 (0, 0)) := (setRow_other _ _ _ _ (Nat.ne_of_gt l2)).trans ((setRow_other _ _ _ _ (Nat.ne_of_gt (Nat.lt_trans l1 l2))).trans S3.2.2)
  have cA : (((w3.setRow w.heap.size (fiV A)).setRow g1 (fiV B)).setRow g2 (fiV C)).heap[w.heap.size]? = some (.cells (fiV A) 25 (0, 0)) := (setRow_other _ _ _ _ (Nat.ne_of_lt (Nat.lt_trans l1 l2))).trans ((setRow_other _ _ _ _ (Nat.ne_of_lt l1)).trans (setRow_heap _ _ _ _ _ _ S3.1))
  have cB : (((w3.setRow w.heap.size (fiV A)).setRow g1 (fiV B)).setRow g2 (fiV C)).heap[g1]? = some (.cells (fiV B) 25 (0, 0)) := (setRow_other _ _ _ _ (Nat.ne_of_lt l2)).trans (setRow_heap _ _ _ _ _ _ s2)
  have cC : (((w3.setRow w.heap.size (fiV A)).setRow g1 (fiV B)).setRow g2 (fiV C)).heap[g2]? = some (.cells (fiV C) 25 (0, 0)) := setRow_heap _ _ _ _ _ _ s3
  have gW : RowKit.Below w.heap.size w (((w3.setRow w.heap.size (fiV A)).setRow g1 (fiV B)).setRow g2 (fiV C)) := below_setRow (below_setRow (below_setRow gg3 (Nat.le_refl _) _) (Nat.le_of_lt l1) _) (Nat.le_of_lt (Nat.lt_trans l1 l2)) _
  refine wpAny_ready (rs := [6]) (by kernel_rfl) (by simp) ?_
  refine AllReady.cons rfl (fun K hK => ?_) AllReady.nil
  (with_reducible refine draw_storeR rowFi ?qagd ?qax ?qay ?qao w.heap.size (fiV A) ?qahx ?qahy S3.1 ?qan ?qaold (ones3 _ _ _) ?qah)
  case qao => exact rfl
  case qagd => exact rfl
  case qahx => first | (simp [Act.eval]; done) | simp [Act.eval, Act.put]
  case qahy => first | (simp [Act.eval]; done) | simp [Act.eval, Act.put]
  case qan => rfl
  case qaold => rfl
  refine hK _ _ ?_; clear hK K
  refine wpAny_ready (rs := [7]) (by kernel_rfl) (by simp) ?_
  refine AllReady.cons rfl (fun K hK => ?_) AllReady.nil
  (with_reducible refine draw_storeR rowFi ?qbgd ?qbx ?qby ?qbo g1 (fiV B) ?qbhx ?qbhy s2 ?qbn ?qbold (ones3 _ _ _) ?qbh)
  case qbo => exact rfl
  case qbgd => exact rfl
  case qbhx => first | (simp [Act.eval]; done) | simp [Act.eval, Act.put]
  case qbhy => first | (simp [Act.eval]; done) | simp [Act.eval, Act.put]
  case qbn => rfl
  case qbold => rfl
  refine hK _ _ ?_; clear hK K
  refine wpAny_ready (rs := [8]) (by kernel_rfl) (by simp) ?_
  refine AllReady.cons rfl (fun K hK => ?_) AllReady.nil
  (with_reducible refine draw_storeR rowFi ?qcgd ?qcx ?qcy ?qco g2 (fiV C) ?qchx ?qchy s3 ?qcn ?qcold (ones3 _ _ _) ?qch)
  case qco => exact rfl
  case qcgd => exact rfl
  case qchx => first | (simp [Act.eval]; done) | simp [Act.eval, Act.put]
  case qchy => first | (simp [Act.eval]; done) | simp [Act.eval, Act.put]
  case qcn => rfl
  case qcold => rfl
  refine hK _ _ ?_; clear hK K
  refine wpAny_done (by kernel_rfl) ?_ _
  clear S1 S2 S3 HS k1 k2 k3 gg3 gg0 s2 s3 a0 b0 c0 kA kB kC
  generalize ((w3.setRow w.heap.size (fiV A)).setRow g1 (fiV B)).setRow g2 (fiV C) = W at *
  clear w3 w2 w1 w0
  have hmf : ∀ w', (Instr.makeFunc (.func 21) #[] #[.pointer (some ⟨g1, 0, none⟩)]).run Try.prog w' = .ok (.func (.func 21) #[] #[.pointer (some ⟨g1, 0, none⟩)]) w' := fun w' => rfl
  obtain ⟨be, hbe⟩ : ∃ be, B.ext = be := ⟨_, rfl⟩
  obtain ⟨ae, hae⟩ : ∃ ae, A.ext = ae := ⟨_, rfl⟩
  obtain ⟨u, hu⟩ : ∃ u, id &&& (4294967295 - B.mask) = u := ⟨_, rfl⟩
  obtain ⟨V, hV⟩ : ∃ V, B.mat ||| u = V := ⟨_, rfl⟩
  obtain ⟨Z, hZ⟩ : ∃ Z, inF B id = Z := ⟨_, rfl⟩
  have hul : u < 4294967296 := by rw [← hu]; exact Nat.lt_of_le_of_lt Nat.and_le_left hi
  have hVl : V < 4294967296 := by rw [← hV]; exact Nat.or_lt_two_pow (n := 32) (by simpa using hBo.2) (by simpa using hul)
  have hZl : Z < 4294967296 := by rw [← hZ]; exact inF_lt B id
  have hVZ : V &&& topF be = Z := by rw [← hZ, ← hV, ← hu, ← hbe]; rfl
  have hN := u32_andNot_nat id B.mask hi hBo.1
  rw [hu] at hN
  have hO := or_u32c B.mat u hBo.2 hul
  rw [hV] at hO
  obtain ⟨D, hD⟩ : ∃ D, A.mask &&& (4294967295 - B.mask) = D := ⟨_, rfl⟩
  have hDl : D < 4294967296 := by rw [← hD]; exact Nat.lt_of_le_of_lt Nat.and_le_left hAo.1
  have hND := u32_andNot_nat A.mask B.mask hAo.1 hBo.1
  rw [hD] at hND
  have kL := hid (fun (w : World) (x : Fi) (id : Nat) (hx : x.Ok) (hi : id < 4294967296) (hc : w.cell? ⟨g1, 0, none⟩ = some (.bool be)) => clo11_any w g1 x id be hx hi hc)
  obtain ⟨xa0, xa1, xa2⟩ := bx3 cA
  obtain ⟨xb0, xb1, xb2⟩ := bx3 cB
  rw [hae] at xa0
  rw [hbe] at xb0
  have HBE := hid hbe; have HAE := hid hae; have HZ := hid hZ; have HD := hid hD
  have hLB := cov_in hBo hB id
  rw [hbe, hZ] at hLB
  clear hu hV hbe hae hZ hD
  go_upto_if 30 with fail
  go_cut [10] (fun s10 wx => s10 = .int .u32 (Z : Int) ∧ wx = W)
  case first =>
    clear hND hN hO xa0 xa1 xa2 xb1 xb2 hLB
    cases be
    · have hT : bits .and .u32 (V : Int) 2047 = (Z : Int) := by rw [← hVZ]; exact and_u32 V 2047 hVl (by decide)
      go_wp2_with fail
      go_meet
      exact ⟨rfl, rfl⟩
    · have hT : bits .and .u32 (V : Int) 536870911 = (Z : Int) := by rw [← hVZ]; exact and_u32 V 536870911 hVl (by decide)
      go_wp2_with fail
      go_meet
      exact ⟨rfl, rfl⟩
  case rest =>
  obtain ⟨rfl, rfl⟩ := hcut
  clear hN hO hVZ hVl hul
  generalize wc = W at *
  have kAA := hid (fun w => covers_any A A hAo hAo w)
  rw [cov_self hAo hA] at kAA
  have kBB := hid (fun (w : World) (hc : w.cell? ⟨g1, 0, none⟩ = some (.bool be)) => kL.out w B Z hBo hZl hc)
  rw [hLB] at kBB
  clear hLB
  cases hcv : coversF A B
  · have kAB := hid (fun w => covers_any A B hAo hBo w)
    rw [hcv] at kAB
    by_cases hab : ae = be
    · subst hab
      have HALL := hid (shF_all hAo hBo hA hB (HAE.out.trans HBE.out.symm) hcv Z)
      have HS0 := hid (show shF A B Z 0 = !letsF B.mat ae A from (by show (!letsF B.mat B.ext A) = _; rw [HBE.out]))
      have HSS := hid (show ∀ k, shF A B Z (k + 1) = if D &&& 2 ^ k = 0 then shF A B Z k else (shF A B Z k || !letsF Z ae A || !letsF (Z ^^^ 2 ^ k) ae A) from (by intro k; rw [← HD.out, ← HBE.out]; rfl))
      have kL0 := hid (fun (w : World) (hc : w.cell? ⟨g1, 0, none⟩ = some (.bool ae)) => kL.out w A B.mat hAo hBo.2 hc)
      have kLA := hid (fun (w : World) (hc : w.cell? ⟨g1, 0, none⟩ = some (.bool ae)) => kL.out w A Z hAo hZl hc)
      clear hcv hi hx hy hz hA hB
      go_wp2_with (first
        | (with_reducible refine wpList_loadR rowFi rfl _ rfl _ rfl cA rfl ?_)
        | (with_reducible refine wpList_loadR rowFi rfl _ rfl _ rfl cB rfl ?_)
        | (with_reducible refine wpList_loadR rowFi rfl _ rfl _ rfl cC rfl ?_)
        | ((with_reducible refine wpList_loadW rowFi ?_ _ rfl _ rfl cA rfl ?_); focus (simp [Region.wanted, yielded, Act.put]; done))
        | ((with_reducible refine wpList_loadW rowFi ?_ _ rfl _ rfl cB rfl ?_); focus (simp [Region.wanted, yielded, Act.put]; done))
        | ((with_reducible refine wpList_loadW rowFi ?_ _ rfl _ rfl cC rfl ?_); focus (simp [Region.wanted, yielded, Act.put]; done))
        | (go_at_call 17; (with_reducible refine (kAB.out _).mono ?_); rintro q w2 ⟨rfl, gk⟩; replace gW := bstep gW gk; replace cA := bx_below cA gk; replace cB := bx_below cB gk; replace cC := bx_below cC gk; clear xa0 xa1 xa2 xb0 xb1 xb2; obtain ⟨xa0, xa1, xa2⟩ := bx3 cA; obtain ⟨xb0, xb1, xb2⟩ := bx3 cB; rw [HAE.out] at xa0; rw [HBE.out] at xb0; clear gk)
        | (go_at_call 21; (with_reducible refine (kBB.out _ xb0).mono ?_); rintro q w2 ⟨rfl, gk⟩; replace gW := bstep gW gk; replace cA := bx_below cA gk; replace cB := bx_below cB gk; replace cC := bx_below cC gk; clear xa0 xa1 xa2 xb0 xb1 xb2; obtain ⟨xa0, xa1, xa2⟩ := bx3 cA; obtain ⟨xb0, xb1, xb2⟩ := bx3 cB; rw [HAE.out] at xa0; rw [HBE.out] at xb0; clear gk)
        | (go_at_call 21; (with_reducible refine (kL0.out _ xb0).mono ?_); rintro q w2 ⟨rfl, gk⟩; replace gW := bstep gW gk; replace cA := bx_below cA gk; replace cB := bx_below cB gk; replace cC := bx_below cC gk; clear xa0 xa1 xa2 xb0 xb1 xb2; obtain ⟨xa0, xa1, xa2⟩ := bx3 cA; obtain ⟨xb0, xb1, xb2⟩ := bx3 cB; rw [HAE.out] at xa0; rw [HBE.out] at xb0; clear gk)
        | (go_at_call 8; (with_reducible refine (awake11_any _).mono ?_); rintro q w5 ⟨rfl, g5⟩))
      rw [← HS0.out]
      clear HS0 kL0 kBB
      go_loopg [12, 68] 29 (fun gn s12 s68 wr => ∃ k : Nat, k ≤ 29 ∧ gn = 29 - k ∧ s12 = .bool (shF A B Z k) ∧ s68 = .int .i64 (k : Int) ∧ wr.heap[w.heap.size]? = some (.cells (fiV A) 25 (0, 0)) ∧ wr.heap[g1]? = some (.cells (fiV B) 25 (0, 0)) ∧ wr.heap[g2]? = some (.cells (fiV C) 25 (0, 0)) ∧ RowKit.Below w.heap.size w wr)
      case atStart => exact ⟨0, by omega, by omega, rfl, rfl, cA, cB, cC, gW⟩
      case round =>
        clear cA cB cC gW xa0 xa1 xa2 xb0 xb1 xb2
        obtain ⟨k, hk, rfl, rfl, rfl, cA, cB, cC, gW⟩ := hrel
        obtain ⟨xa0, xa1, xa2⟩ := bx3 cA
        obtain ⟨xb0, xb1, xb2⟩ := bx3 cB
        rw [HAE.out] at xa0
        rw [HBE.out] at xb0
        by_cases hlt : k < 29
        · have hP31 : 2 ^ k < 4294967296 := Nat.lt_of_le_of_lt (Nat.pow_le_pow_right (by decide) (show k ≤ 30 by omega)) (by decide)
          have hshl := shl_u32c k (by omega)
          have hand := and_u32 D (2 ^ k) hDl hP31
          have hxor := bxor_u32c hZl hP31
          have hXl : Z ^^^ 2 ^ k < 4294967296 := Nat.xor_lt_two_pow (n := 32) (by simpa using hZl) (by simpa using hP31)
          have hsh := HSS.out k
          have hPv : (2 : Int) ^ k % 4294967296 = ((2 ^ k : Nat) : Int) := by
            rw [show ((2 : Int) ^ k) = ((2 ^ k : Nat) : Int) by push_cast; rfl]
            generalize (2 : Nat) ^ k = p at *
            omega
          generalize (2 : Nat) ^ k = P at *
          by_cases hz : D &&& P = 0
          · rw [if_pos hz] at hsh
            rw [hz] at hand
            have HSH := hid hsh
            clear hsh hz hxor hXl
            go_wp2_with (first
              | (with_reducible refine wpList_loadR rowFi rfl _ rfl _ rfl cA rfl ?_)
              | (with_reducible refine wpList_loadR rowFi rfl _ rfl _ rfl cB rfl ?_)
              | (with_reducible refine wpList_loadR rowFi rfl _ rfl _ rfl cC rfl ?_)
              | ((with_reducible refine wpList_loadW rowFi ?_ _ rfl _ rfl cA rfl ?_); focus (simp [Region.wanted, yielded, Act.put]; done))
              | ((with_reducible refine wpList_loadW rowFi ?_ _ rfl _ rfl cB rfl ?_); focus (simp [Region.wanted, yielded, Act.put]; done))
              | ((with_reducible refine wpList_loadW rowFi ?_ _ rfl _ rfl cC rfl ?_); focus (simp [Region.wanted, yielded, Act.put]; done))
              | (go_at_call 8; (with_reducible refine (awake11_any _).mono ?_); rintro q w5 ⟨rfl, g5⟩))
            go_roundg (29 - (k + 1))
            case measure => omega
            case rel => exact ⟨k + 1, by omega, rfl, by rw [HSH.out], by go_num, cA, cB, cC, gW⟩
          · rw [if_neg hz] at hsh
            have hz2 : (((D &&& P : Nat) : Int) == 0) = false := by simp; omega
            clear hz
            generalize D &&& P = z at *
            cases hb : shF A B Z k
            · rw [hb] at hsh
              clear hb
              cases h1 : letsF Z ae A
              · rw [h1] at hsh kLA
                have HSH := hid hsh
                clear hsh h1 hXl
                go_wp2_with (first
                  | (with_reducible refine wpList_loadR rowFi rfl _ rfl _ rfl cA rfl ?_)
                  | (with_reducible refine wpList_loadR rowFi rfl _ rfl _ rfl cB rfl ?_)
                  | (with_reducible refine wpList_loadR rowFi rfl _ rfl _ rfl cC rfl ?_)
                  | ((with_reducible refine wpList_loadW rowFi ?_ _ rfl _ rfl cA rfl ?_); focus (simp [Region.wanted, yielded, Act.put]; done))
                  | ((with_reducible refine wpList_loadW rowFi ?_ _ rfl _ rfl cB rfl ?_); focus (simp [Region.wanted, yielded, Act.put]; done))
                  | ((with_reducible refine wpList_loadW rowFi ?_ _ rfl _ rfl cC rfl ?_); focus (simp [Region.wanted, yielded, Act.put]; done))
                  | (go_at_call 21; (with_reducible refine (kLA.out _ xb0).mono ?_); rintro q w2 ⟨rfl, gk⟩; replace gW := bstep gW gk; replace cA := bx_below cA gk; replace cB := bx_below cB gk; replace cC := bx_below cC gk; clear xa0 xa1 xa2 xb0 xb1 xb2; obtain ⟨xa0, xa1, xa2⟩ := bx3 cA; obtain ⟨xb0, xb1, xb2⟩ := bx3 cB; rw [HAE.out] at xa0; rw [HBE.out] at xb0; clear gk)
                  | (go_at_call 8; (with_reducible refine (awake11_any _).mono ?_); rintro q w5 ⟨rfl, g5⟩))
                go_roundg (29 - (k + 1))
                case measure => omega
                case rel => exact ⟨k + 1, by omega, rfl, by rw [HSH.out]; rfl, by go_num, cA, cB, cC, gW⟩
              · rw [h1] at hsh kLA
                clear h1
                have kLX := hid (fun (w : World) (hc : w.cell? ⟨g1, 0, none⟩ = some (.bool ae)) => kL.out w A (Z ^^^ P) hAo hXl hc)
                cases h2 : letsF (Z ^^^ P) ae A
                · rw [h2] at hsh kLX
                  have HSH := hid hsh
                  clear hsh h2 hXl
                  generalize Z ^^^ P = X at *
                  go_wp2_with (first
                    | (with_reducible refine wpList_loadR rowFi rfl _ rfl _ rfl cA rfl ?_)
                    | (with_reducible refine wpList_loadR rowFi rfl _ rfl _ rfl cB rfl ?_)
                    | (with_reducible refine wpList_loadR rowFi rfl _ rfl _ rfl cC rfl ?_)
                    | ((with_reducible refine wpList_loadW rowFi ?_ _ rfl _ rfl cA rfl ?_); focus (simp [Region.wanted, yielded, Act.put]; done))
                    | ((with_reducible refine wpList_loadW rowFi ?_ _ rfl _ rfl cB rfl ?_); focus (simp [Region.wanted, yielded, Act.put]; done))
                    | ((with_reducible refine wpList_loadW rowFi ?_ _ rfl _ rfl cC rfl ?_); focus (simp [Region.wanted, yielded, Act.put]; done))
                    | (go_at_call 21; (with_reducible refine (kLA.out _ xb0).mono ?_); rintro q w2 ⟨rfl, gk⟩; replace gW := bstep gW gk; replace cA := bx_below cA gk; replace cB := bx_below cB gk; replace cC := bx_below cC gk; clear xa0 xa1 xa2 xb0 xb1 xb2; obtain ⟨xa0, xa1, xa2⟩ := bx3 cA; obtain ⟨xb0, xb1, xb2⟩ := bx3 cB; rw [HAE.out] at xa0; rw [HBE.out] at xb0; clear gk)
                    | (go_at_call 21; (with_reducible refine (kLX.out _ xb0).mono ?_); rintro q w2 ⟨rfl, gk⟩; replace gW := bstep gW gk; replace cA := bx_below cA gk; replace cB := bx_below cB gk; replace cC := bx_below cC gk; clear xa0 xa1 xa2 xb0 xb1 xb2; obtain ⟨xa0, xa1, xa2⟩ := bx3 cA; obtain ⟨xb0, xb1, xb2⟩ := bx3 cB; rw [HAE.out] at xa0; rw [HBE.out] at xb0; clear gk)
                    | (go_at_call 8; (with_reducible refine (awake11_any _).mono ?_); rintro q w5 ⟨rfl, g5⟩))
                  go_roundg (29 - (k + 1))
                  case measure => omega
                  case rel => exact ⟨k + 1, by omega, rfl, by rw [HSH.out]; rfl, by go_num, cA, cB, cC, gW⟩
                · rw [h2] at hsh kLX
                  have HSH := hid hsh
                  clear hsh h2 hXl
                  generalize Z ^^^ P = X at *
                  go_wp2_with (first
                    | (with_reducible refine wpList_loadR rowFi rfl _ rfl _ rfl cA rfl ?_)
                    | (with_reducible refine wpList_loadR rowFi rfl _ rfl _ rfl cB rfl ?_)
                    | (with_reducible refine wpList_loadR rowFi rfl _ rfl _ rfl cC rfl ?_)
                    | ((with_reducible refine wpList_loadW rowFi ?_ _ rfl _ rfl cA rfl ?_); focus (simp [Region.wanted, yielded, Act.put]; done))
                    | ((with_reducible refine wpList_loadW rowFi ?_ _ rfl _ rfl cB rfl ?_); focus (simp [Region.wanted, yielded, Act.put]; done))
                    | ((with_reducible refine wpList_loadW rowFi ?_ _ rfl _ rfl cC rfl ?_); focus (simp [Region.wanted, yielded, Act.put]; done))
                    | (go_at_call 21; (with_reducible refine (kLA.out _ xb0).mono ?_); rintro q w2 ⟨rfl, gk⟩; replace gW := bstep gW gk; replace cA := bx_below cA gk; replace cB := bx_below cB gk; replace cC := bx_below cC gk; clear xa0 xa1 xa2 xb0 xb1 xb2; obtain ⟨xa0, xa1, xa2⟩ := bx3 cA; obtain ⟨xb0, xb1, xb2⟩ := bx3 cB; rw [HAE.out] at xa0; rw [HBE.out] at xb0; clear gk)
                    | (go_at_call 21; (with_reducible refine (kLX.out _ xb0).mono ?_); rintro q w2 ⟨rfl, gk⟩; replace gW := bstep gW gk; replace cA := bx_below cA gk; replace cB := bx_below cB gk; replace cC := bx_below cC gk; clear xa0 xa1 xa2 xb0 xb1 xb2; obtain ⟨xa0, xa1, xa2⟩ := bx3 cA; obtain ⟨xb0, xb1, xb2⟩ := bx3 cB; rw [HAE.out] at xa0; rw [HBE.out] at xb0; clear gk)
                    | (go_at_call 8; (with_reducible refine (awake11_any _).mono ?_); rintro q w5 ⟨rfl, g5⟩))
                  go_roundg (29 - (k + 1))
                  case measure => omega
                  case rel => exact ⟨k + 1, by omega, rfl, by rw [HSH.out]; rfl, by go_num, cA, cB, cC, gW⟩
            · rw [hb] at hsh
              have HSH := hid hsh
              clear hsh hb hXl
              go_wp2_with (first
                | (with_reducible refine wpList_loadR rowFi rfl _ rfl _ rfl cA rfl ?_)
                | (with_reducible refine wpList_loadR rowFi rfl _ rfl _ rfl cB rfl ?_)
                | (with_reducible refine wpList_loadR rowFi rfl _ rfl _ rfl cC rfl ?_)
                | ((with_reducible refine wpList_loadW rowFi ?_ _ rfl _ rfl cA rfl ?_); focus (simp [Region.wanted, yielded, Act.put]; done))
                | ((with_reducible refine wpList_loadW rowFi ?_ _ rfl _ rfl cB rfl ?_); focus (simp [Region.wanted, yielded, Act.put]; done))
                | ((with_reducible refine wpList_loadW rowFi ?_ _ rfl _ rfl cC rfl ?_); focus (simp [Region.wanted, yielded, Act.put]; done))
                | (go_at_call 8; (with_reducible refine (awake11_any _).mono ?_); rintro q w5 ⟨rfl, g5⟩))
              go_roundg (29 - (k + 1))
              case measure => omega
              case rel => exact ⟨k + 1, by omega, rfl, by rw [HSH.out]; simp, by go_num, cA, cB, cC, gW⟩
        · obtain rfl : k = 29 := by omega
          rw [HALL.out]
          go_wp2_with (first
            | (with_reducible refine wpList_loadR rowFi rfl _ rfl _ rfl cA rfl ?_)
            | (with_reducible refine wpList_loadR rowFi rfl _ rfl _ rfl cB rfl ?_)
            | (with_reducible refine wpList_loadR rowFi rfl _ rfl _ rfl cC rfl ?_)
            | ((with_reducible refine wpList_loadW rowFi ?_ _ rfl _ rfl cA rfl ?_); focus (simp [Region.wanted, yielded, Act.put]; done))
            | ((with_reducible refine wpList_loadW rowFi ?_ _ rfl _ rfl cB rfl ?_); focus (simp [Region.wanted, yielded, Act.put]; done))
            | ((with_reducible refine wpList_loadW rowFi ?_ _ rfl _ rfl cC rfl ?_); focus (simp [Region.wanted, yielded, Act.put]; done))
            | (go_at_call 17; (with_reducible refine (kAA.out _).mono ?_); rintro q w2 ⟨rfl, gk⟩; replace gW := bstep gW gk; replace cA := bx_below cA gk; replace cB := bx_below cB gk; replace cC := bx_below cC gk; clear xa0 xa1 xa2 xb0 xb1 xb2; obtain ⟨xa0, xa1, xa2⟩ := bx3 cA; obtain ⟨xb0, xb1, xb2⟩ := bx3 cB; rw [HAE.out] at xa0; rw [HBE.out] at xb0; clear gk)
            | (go_at_call 17; (with_reducible refine (kAB.out _).mono ?_); rintro q w2 ⟨rfl, gk⟩; replace gW := bstep gW gk; replace cA := bx_below cA gk; replace cB := bx_below cB gk; replace cC := bx_below cC gk; clear xa0 xa1 xa2 xb0 xb1 xb2; obtain ⟨xa0, xa1, xa2⟩ := bx3 cA; obtain ⟨xb0, xb1, xb2⟩ := bx3 cB; rw [HAE.out] at xa0; rw [HBE.out] at xb0; clear gk)
            | (go_at_call 8; (with_reducible refine (awake11_any _).mono ?_); rintro q w5 ⟨rfl, g5⟩))
          go_ret
          exact ⟨rfl, bstep gW g5⟩
    · clear hcv hND
      cases ae <;> cases be
      · exact absurd rfl hab
      · clear hab
        go_wp2_with (first
          | (with_reducible refine wpList_loadR rowFi rfl _ rfl _ rfl cA rfl ?_)
          | (with_reducible refine wpList_loadR rowFi rfl _ rfl _ rfl cB rfl ?_)
          | (with_reducible refine wpList_loadR rowFi rfl _ rfl _ rfl cC rfl ?_)
          | ((with_reducible refine wpList_loadW rowFi ?_ _ rfl _ rfl cA rfl ?_); focus (simp [Region.wanted, yielded, Act.put]; done))
          | ((with_reducible refine wpList_loadW rowFi ?_ _ rfl _ rfl cB rfl ?_); focus (simp [Region.wanted, yielded, Act.put]; done))
          | ((with_reducible refine wpList_loadW rowFi ?_ _ rfl _ rfl cC rfl ?_); focus (simp [Region.wanted, yielded, Act.put]; done))
          | (go_at_call 17; (with_reducible refine (kAA.out _).mono ?_); rintro q w2 ⟨rfl, gk⟩; replace gW := bstep gW gk; replace cA := bx_below cA gk; replace cB := bx_below cB gk; replace cC := bx_below cC gk; clear xa0 xa1 xa2 xb0 xb1 xb2; obtain ⟨xa0, xa1, xa2⟩ := bx3 cA; obtain ⟨xb0, xb1, xb2⟩ := bx3 cB; rw [HAE.out] at xa0; rw [HBE.out] at xb0; clear gk)
          | (go_at_call 17; (with_reducible refine (kAB.out _).mono ?_); rintro q w2 ⟨rfl, gk⟩; replace gW := bstep gW gk; replace cA := bx_below cA gk; replace cB := bx_below cB gk; replace cC := bx_below cC gk; clear xa0 xa1 xa2 xb0 xb1 xb2; obtain ⟨xa0, xa1, xa2⟩ := bx3 cA; obtain ⟨xb0, xb1, xb2⟩ := bx3 cB; rw [HAE.out] at xa0; rw [HBE.out] at xb0; clear gk)
          | (go_at_call 21; (with_reducible refine (kBB.out _ xb0).mono ?_); rintro q w2 ⟨rfl, gk⟩; replace gW := bstep gW gk; replace cA := bx_below cA gk; replace cB := bx_below cB gk; replace cC := bx_below cC gk; clear xa0 xa1 xa2 xb0 xb1 xb2; obtain ⟨xa0, xa1, xa2⟩ := bx3 cA; obtain ⟨xb0, xb1, xb2⟩ := bx3 cB; rw [HAE.out] at xa0; rw [HBE.out] at xb0; clear gk)
          | (go_at_call 8; (with_reducible refine (awake11_any _).mono ?_); rintro q w5 ⟨rfl, g5⟩))
        go_ret
        exact ⟨rfl, bstep gW g5⟩
      · clear hab
        go_wp2_with (first
          | (with_reducible refine wpList_loadR rowFi rfl _ rfl _ rfl cA rfl ?_)
          | (with_reducible refine wpList_loadR rowFi rfl _ rfl _ rfl cB rfl ?_)
          | (with_reducible refine wpList_loadR rowFi rfl _ rfl _ rfl cC rfl ?_)
          | ((with_reducible refine wpList_loadW rowFi ?_ _ rfl _ rfl cA rfl ?_); focus (simp [Region.wanted, yielded, Act.put]; done))
          | ((with_reducible refine wpList_loadW rowFi ?_ _ rfl _ rfl cB rfl ?_); focus (simp [Region.wanted, yielded, Act.put]; done))
          | ((with_reducible refine wpList_loadW rowFi ?_ _ rfl _ rfl cC rfl ?_); focus (simp [Region.wanted, yielded, Act.put]; done))
          | (go_at_call 17; (with_reducible refine (kAA.out _).mono ?_); rintro q w2 ⟨rfl, gk⟩; replace gW := bstep gW gk; replace cA := bx_below cA gk; replace cB := bx_below cB gk; replace cC := bx_below cC gk; clear xa0 xa1 xa2 xb0 xb1 xb2; obtain ⟨xa0, xa1, xa2⟩ := bx3 cA; obtain ⟨xb0, xb1, xb2⟩ := bx3 cB; rw [HAE.out] at xa0; rw [HBE.out] at xb0; clear gk)
          | (go_at_call 17; (with_reducible refine (kAB.out _).mono ?_); rintro q w2 ⟨rfl, gk⟩; replace gW := bstep gW gk; replace cA := bx_below cA gk; replace cB := bx_below cB gk; replace cC := bx_below cC gk; clear xa0 xa1 xa2 xb0 xb1 xb2; obtain ⟨xa0, xa1, xa2⟩ := bx3 cA; obtain ⟨xb0, xb1, xb2⟩ := bx3 cB; rw [HAE.out] at xa0; rw [HBE.out] at xb0; clear gk)
          | (go_at_call 21; (with_reducible refine (kBB.out _ xb0).mono ?_); rintro q w2 ⟨rfl, gk⟩; replace gW := bstep gW gk; replace cA := bx_below cA gk; replace cB := bx_below cB gk; replace cC := bx_below cC gk; clear xa0 xa1 xa2 xb0 xb1 xb2; obtain ⟨xa0, xa1, xa2⟩ := bx3 cA; obtain ⟨xb0, xb1, xb2⟩ := bx3 cB; rw [HAE.out] at xa0; rw [HBE.out] at xb0; clear gk)
          | (go_at_call 8; (with_reducible refine (awake11_any _).mono ?_); rintro q w5 ⟨rfl, g5⟩))
        go_ret
        exact ⟨rfl, bstep gW g5⟩
      · exact absurd rfl hab
  · have kAB := hid (fun w => covers_any A B hAo hBo w)
    rw [hcv] at kAB
    have hLA := cov_lets hAo hBo hcv id
    rw [HBE.out, HZ.out] at hLA
    have kLA := hid (fun (w : World) (hc : w.cell? ⟨g1, 0, none⟩ = some (.bool be)) => kL.out w A Z hAo hZl hc)
    rw [hLA] at kLA
    have kBC := hid (fun w => covers_any B C hBo hCo w)
    have kBA := hid (fun w => covers_any B A hBo hAo w)
    have kAC := hid (fun w => covers_any A C hAo hCo w)
    have htr := cov_trans hAo hBo hCo hcv
    have han := cov_anti hAo hBo hcv
    clear hLA hcv hND hi hx hy hz hA hB
    cases hbc : coversF B C
    · rw [hbc] at kBC
      clear hbc htr
      cases hba : coversF B A
      · rw [hba] at kBA
        clear hba han
        go_wp2_with (first
          | (with_reducible refine wpList_loadR rowFi rfl _ rfl _ rfl cA rfl ?_)
          | (with_reducible refine wpList_loadR rowFi rfl _ rfl _ rfl cB rfl ?_)
          | (with_reducible refine wpList_loadR rowFi rfl _ rfl _ rfl cC rfl ?_)
          | ((with_reducible refine wpList_loadW rowFi ?_ _ rfl _ rfl cA rfl ?_); focus (simp [Region.wanted, yielded, Act.put]; done))
          | ((with_reducible refine wpList_loadW rowFi ?_ _ rfl _ rfl cB rfl ?_); focus (simp [Region.wanted, yielded, Act.put]; done))
          | ((with_reducible refine wpList_loadW rowFi ?_ _ rfl _ rfl cC rfl ?_); focus (simp [Region.wanted, yielded, Act.put]; done))
          | (go_at_call 17; (with_reducible refine (kAB.out _).mono ?_); rintro q w2 ⟨rfl, gk⟩; replace gW := bstep gW gk; replace cA := bx_below cA gk; replace cB := bx_below cB gk; replace cC := bx_below cC gk; clear xa0 xa1 xa2 xb0 xb1 xb2; obtain ⟨xa0, xa1, xa2⟩ := bx3 cA; obtain ⟨xb0, xb1, xb2⟩ := bx3 cB; rw [HAE.out] at xa0; rw [HBE.out] at xb0; clear gk)
          | (go_at_call 17; (with_reducible refine (kBC.out _).mono ?_); rintro q w2 ⟨rfl, gk⟩; replace gW := bstep gW gk; replace cA := bx_below cA gk; replace cB := bx_below cB gk; replace cC := bx_below cC gk; clear xa0 xa1 xa2 xb0 xb1 xb2; obtain ⟨xa0, xa1, xa2⟩ := bx3 cA; obtain ⟨xb0, xb1, xb2⟩ := bx3 cB; rw [HAE.out] at xa0; rw [HBE.out] at xb0; clear gk)
          | (go_at_call 17; (with_reducible refine (kAA.out _).mono ?_); rintro q w2 ⟨rfl, gk⟩; replace gW := bstep gW gk; replace cA := bx_below cA gk; replace cB := bx_below cB gk; replace cC := bx_below cC gk; clear xa0 xa1 xa2 xb0 xb1 xb2; obtain ⟨xa0, xa1, xa2⟩ := bx3 cA; obtain ⟨xb0, xb1, xb2⟩ := bx3 cB; rw [HAE.out] at xa0; rw [HBE.out] at xb0; clear gk)
          | (go_at_call 17; (with_reducible refine (kBA.out _).mono ?_); rintro q w2 ⟨rfl, gk⟩; replace gW := bstep gW gk; replace cA := bx_below cA gk; replace cB := bx_below cB gk; replace cC := bx_below cC gk; clear xa0 xa1 xa2 xb0 xb1 xb2; obtain ⟨xa0, xa1, xa2⟩ := bx3 cA; obtain ⟨xb0, xb1, xb2⟩ := bx3 cB; rw [HAE.out] at xa0; rw [HBE.out] at xb0; clear gk)
          | (go_at_call 21; (with_reducible refine (kBB.out _ xb0).mono ?_); rintro q w2 ⟨rfl, gk⟩; replace gW := bstep gW gk; replace cA := bx_below cA gk; replace cB := bx_below cB gk; replace cC := bx_below cC gk; clear xa0 xa1 xa2 xb0 xb1 xb2; obtain ⟨xa0, xa1, xa2⟩ := bx3 cA; obtain ⟨xb0, xb1, xb2⟩ := bx3 cB; rw [HAE.out] at xa0; rw [HBE.out] at xb0; clear gk)
          | (go_at_call 21; (with_reducible refine (kLA.out _ xb0).mono ?_); rintro q w2 ⟨rfl, gk⟩; replace gW := bstep gW gk; replace cA := bx_below cA gk; replace cB := bx_below cB gk; replace cC := bx_below cC gk; clear xa0 xa1 xa2 xb0 xb1 xb2; obtain ⟨xa0, xa1, xa2⟩ := bx3 cA; obtain ⟨xb0, xb1, xb2⟩ := bx3 cB; rw [HAE.out] at xa0; rw [HBE.out] at xb0; clear gk)
          | (go_at_call 8; (with_reducible refine (awake11_any _).mono ?_); rintro q w5 ⟨rfl, g5⟩))
        go_ret
        exact ⟨rfl, bstep gW g5⟩
      · rw [hba] at kBA
        obtain rfl : A = B := han hba
        clear hba han
        go_wp2_with (first
          | (with_reducible refine wpList_loadR rowFi rfl _ rfl _ rfl cA rfl ?_)
          | (with_reducible refine wpList_loadR rowFi rfl _ rfl _ rfl cB rfl ?_)
          | (with_reducible refine wpList_loadR rowFi rfl _ rfl _ rfl cC rfl ?_)
          | ((with_reducible refine wpList_loadW rowFi ?_ _ rfl _ rfl cA rfl ?_); focus (simp [Region.wanted, yielded, Act.put]; done))
          | ((with_reducible refine wpList_loadW rowFi ?_ _ rfl _ rfl cB rfl ?_); focus (simp [Region.wanted, yielded, Act.put]; done))
          | ((with_reducible refine wpList_loadW rowFi ?_ _ rfl _ rfl cC rfl ?_); focus (simp [Region.wanted, yielded, Act.put]; done))
          | (go_at_call 17; (with_reducible refine (kAB.out _).mono ?_); rintro q w2 ⟨rfl, gk⟩; replace gW := bstep gW gk; replace cA := bx_below cA gk; replace cB := bx_below cB gk; replace cC := bx_below cC gk; clear xa0 xa1 xa2 xb0 xb1 xb2; obtain ⟨xa0, xa1, xa2⟩ := bx3 cA; obtain ⟨xb0, xb1, xb2⟩ := bx3 cB; rw [HAE.out] at xa0; rw [HBE.out] at xb0; clear gk)
          | (go_at_call 17; (with_reducible refine (kBC.out _).mono ?_); rintro q w2 ⟨rfl, gk⟩; replace gW := bstep gW gk; replace cA := bx_below cA gk; replace cB := bx_below cB gk; replace cC := bx_below cC gk; clear xa0 xa1 xa2 xb0 xb1 xb2; obtain ⟨xa0, xa1, xa2⟩ := bx3 cA; obtain ⟨xb0, xb1, xb2⟩ := bx3 cB; rw [HAE.out] at xa0; rw [HBE.out] at xb0; clear gk)
          | (go_at_call 17; (with_reducible refine (kAA.out _).mono ?_); rintro q w2 ⟨rfl, gk⟩; replace gW := bstep gW gk; replace cA := bx_below cA gk; replace cB := bx_below cB gk; replace cC := bx_below cC gk; clear xa0 xa1 xa2 xb0 xb1 xb2; obtain ⟨xa0, xa1, xa2⟩ := bx3 cA; obtain ⟨xb0, xb1, xb2⟩ := bx3 cB; rw [HAE.out] at xa0; rw [HBE.out] at xb0; clear gk)
          | (go_at_call 17; (with_reducible refine (kBA.out _).mono ?_); rintro q w2 ⟨rfl, gk⟩; replace gW := bstep gW gk; replace cA := bx_below cA gk; replace cB := bx_below cB gk; replace cC := bx_below cC gk; clear xa0 xa1 xa2 xb0 xb1 xb2; obtain ⟨xa0, xa1, xa2⟩ := bx3 cA; obtain ⟨xb0, xb1, xb2⟩ := bx3 cB; rw [HAE.out] at xa0; rw [HBE.out] at xb0; clear gk)
          | (go_at_call 21; (with_reducible refine (kBB.out _ xb0).mono ?_); rintro q w2 ⟨rfl, gk⟩; replace gW := bstep gW gk; replace cA := bx_below cA gk; replace cB := bx_below cB gk; replace cC := bx_below cC gk; clear xa0 xa1 xa2 xb0 xb1 xb2; obtain ⟨xa0, xa1, xa2⟩ := bx3 cA; obtain ⟨xb0, xb1, xb2⟩ := bx3 cB; rw [HAE.out] at xa0; rw [HBE.out] at xb0; clear gk)
          | (go_at_call 21; (with_reducible refine (kLA.out _ xb0).mono ?_); rintro q w2 ⟨rfl, gk⟩; replace gW := bstep gW gk; replace cA := bx_below cA gk; replace cB := bx_below cB gk; replace cC := bx_below cC gk; clear xa0 xa1 xa2 xb0 xb1 xb2; obtain ⟨xa0, xa1, xa2⟩ := bx3 cA; obtain ⟨xb0, xb1, xb2⟩ := bx3 cB; rw [HAE.out] at xa0; rw [HBE.out] at xb0; clear gk)
          | (go_at_call 8; (with_reducible refine (awake11_any _).mono ?_); rintro q w5 ⟨rfl, g5⟩))
        go_ret
        exact ⟨rfl, bstep gW g5⟩
    · rw [hbc] at kBC
      rw [htr hbc] at kAC
      clear hbc htr
      cases hba : coversF B A
      · rw [hba] at kBA
        clear hba han
        go_wp2_with (first
          | (with_reducible refine wpList_loadR rowFi rfl _ rfl _ rfl cA rfl ?_)
          | (with_reducible refine wpList_loadR rowFi rfl _ rfl _ rfl cB rfl ?_)
          | (with_reducible refine wpList_loadR rowFi rfl _ rfl _ rfl cC rfl ?_)
          | ((with_reducible refine wpList_loadW rowFi ?_ _ rfl _ rfl cA rfl ?_); focus (simp [Region.wanted, yielded, Act.put]; done))
          | ((with_reducible refine wpList_loadW rowFi ?_ _ rfl _ rfl cB rfl ?_); focus (simp [Region.wanted, yielded, Act.put]; done))
          | ((with_reducible refine wpList_loadW rowFi ?_ _ rfl _ rfl cC rfl ?_); focus (simp [Region.wanted, yielded, Act.put]; done))
          | (go_at_call 17; (with_reducible refine (kAB.out _).mono ?_); rintro q w2 ⟨rfl, gk⟩; replace gW := bstep gW gk; replace cA := bx_below cA gk; replace cB := bx_below cB gk; replace cC := bx_below cC gk; clear xa0 xa1 xa2 xb0 xb1 xb2; obtain ⟨xa0, xa1, xa2⟩ := bx3 cA; obtain ⟨xb0, xb1, xb2⟩ := bx3 cB; rw [HAE.out] at xa0; rw [HBE.out] at xb0; clear gk)
          | (go_at_call 17; (with_reducible refine (kBC.out _).mono ?_); rintro q w2 ⟨rfl, gk⟩; replace gW := bstep gW gk; replace cA := bx_below cA gk; replace cB := bx_below cB gk; replace cC := bx_below cC gk; clear xa0 xa1 xa2 xb0 xb1 xb2; obtain ⟨xa0, xa1, xa2⟩ := bx3 cA; obtain ⟨xb0, xb1, xb2⟩ := bx3 cB; rw [HAE.out] at xa0; rw [HBE.out] at xb0; clear gk)
          | (go_at_call 17; (with_reducible refine (kAA.out _).mono ?_); rintro q w2 ⟨rfl, gk⟩; replace gW := bstep gW gk; replace cA := bx_below cA gk; replace cB := bx_below cB gk; replace cC := bx_below cC gk; clear xa0 xa1 xa2 xb0 xb1 xb2; obtain ⟨xa0, xa1, xa2⟩ := bx3 cA; obtain ⟨xb0, xb1, xb2⟩ := bx3 cB; rw [HAE.out] at xa0; rw [HBE.out] at xb0; clear gk)
          | (go_at_call 17; (with_reducible refine (kBA.out _).mono ?_); rintro q w2 ⟨rfl, gk⟩; replace gW := bstep gW gk; replace cA := bx_below cA gk; replace cB := bx_below cB gk; replace cC := bx_below cC gk; clear xa0 xa1 xa2 xb0 xb1 xb2; obtain ⟨xa0, xa1, xa2⟩ := bx3 cA; obtain ⟨xb0, xb1, xb2⟩ := bx3 cB; rw [HAE.out] at xa0; rw [HBE.out] at xb0; clear gk)
          | (go_at_call 17; (with_reducible refine (kAC.out _).mono ?_); rintro q w2 ⟨rfl, gk⟩; replace gW := bstep gW gk; replace cA := bx_below cA gk; replace cB := bx_below cB gk; replace cC := bx_below cC gk; clear xa0 xa1 xa2 xb0 xb1 xb2; obtain ⟨xa0, xa1, xa2⟩ := bx3 cA; obtain ⟨xb0, xb1, xb2⟩ := bx3 cB; rw [HAE.out] at xa0; rw [HBE.out] at xb0; clear gk)
          | (go_at_call 21; (with_reducible refine (kBB.out _ xb0).mono ?_); rintro q w2 ⟨rfl, gk⟩; replace gW := bstep gW gk; replace cA := bx_below cA gk; replace cB := bx_below cB gk; replace cC := bx_below cC gk; clear xa0 xa1 xa2 xb0 xb1 xb2; obtain ⟨xa0, xa1, xa2⟩ := bx3 cA; obtain ⟨xb0, xb1, xb2⟩ := bx3 cB; rw [HAE.out] at xa0; rw [HBE.out] at xb0; clear gk)
          | (go_at_call 21; (with_reducible refine (kLA.out _ xb0).mono ?_); rintro q w2 ⟨rfl, gk⟩; replace gW := bstep gW gk; replace cA := bx_below cA gk; replace cB := bx_below cB gk; replace cC := bx_below cC gk; clear xa0 xa1 xa2 xb0 xb1 xb2; obtain ⟨xa0, xa1, xa2⟩ := bx3 cA; obtain ⟨xb0, xb1, xb2⟩ := bx3 cB; rw [HAE.out] at xa0; rw [HBE.out] at xb0; clear gk)
          | (go_at_call 8; (with_reducible refine (awake11_any _).mono ?_); rintro q w5 ⟨rfl, g5⟩))
        go_ret
        exact ⟨rfl, bstep gW g5⟩
      · rw [hba] at kBA
        obtain rfl : A = B := han hba
        clear hba han
        go_wp2_with (first
          | (with_reducible refine wpList_loadR rowFi rfl _ rfl _ rfl cA rfl ?_)
          | (with_reducible refine wpList_loadR rowFi rfl _ rfl _ rfl cB rfl ?_)
          | (with_reducible refine wpList_loadR rowFi rfl _ rfl _ rfl cC rfl ?_)
          | ((with_reducible refine wpList_loadW rowFi ?_ _ rfl _ rfl cA rfl ?_); focus (simp [Region.wanted, yielded, Act.put]; done))
          | ((with_reducible refine wpList_loadW rowFi ?_ _ rfl _ rfl cB rfl ?_); focus (simp [Region.wanted, yielded, Act.put]; done))
          | ((with_reducible refine wpList_loadW rowFi ?_ _ rfl _ rfl cC rfl ?_); focus (simp [Region.wanted, yielded, Act.put]; done))
          | (go_at_call 17; (with_reducible refine (kAB.out _).mono ?_); rintro q w2 ⟨rfl, gk⟩; replace gW := bstep gW gk; replace cA := bx_below cA gk; replace cB := bx_below cB gk; replace cC := bx_below cC gk; clear xa0 xa1 xa2 xb0 xb1 xb2; obtain ⟨xa0, xa1, xa2⟩ := bx3 cA; obtain ⟨xb0, xb1, xb2⟩ := bx3 cB; rw [HAE.out] at xa0; rw [HBE.out] at xb0; clear gk)
          | (go_at_call 17; (with_reducible refine (kBC.out _).mono ?_); rintro q w2 ⟨rfl, gk⟩; replace gW := bstep gW gk; replace cA := bx_below cA gk; replace cB := bx_below cB gk; replace cC := bx_below cC gk; clear xa0 xa1 xa2 xb0 xb1 xb2; obtain ⟨xa0, xa1, xa2⟩ := bx3 cA; obtain ⟨xb0, xb1, xb2⟩ := bx3 cB; rw [HAE.out] at xa0; rw [HBE.out] at xb0; clear gk)
          | (go_at_call 17; (with_reducible refine (kAA.out _).mono ?_); rintro q w2 ⟨rfl, gk⟩; replace gW := bstep gW gk; replace cA := bx_below cA gk; replace cB := bx_below cB gk; replace cC := bx_below cC gk; clear xa0 xa1 xa2 xb0 xb1 xb2; obtain ⟨xa0, xa1, xa2⟩ := bx3 cA; obtain ⟨xb0, xb1, xb2⟩ := bx3 cB; rw [HAE.out] at xa0; rw [HBE.out] at xb0; clear gk)
          | (go_at_call 17; (with_reducible refine (kBA.out _).mono ?_); rintro q w2 ⟨rfl, gk⟩; replace gW := bstep gW gk; replace cA := bx_below cA gk; replace cB := bx_below cB gk; replace cC := bx_below cC gk; clear xa0 xa1 xa2 xb0 xb1 xb2; obtain ⟨xa0, xa1, xa2⟩ := bx3 cA; obtain ⟨xb0, xb1, xb2⟩ := bx3 cB; rw [HAE.out] at xa0; rw [HBE.out] at xb0; clear gk)
          | (go_at_call 17; (with_reducible refine (kAC.out _).mono ?_); rintro q w2 ⟨rfl, gk⟩; replace gW := bstep gW gk; replace cA := bx_below cA gk; replace cB := bx_below cB gk; replace cC := bx_below cC gk; clear xa0 xa1 xa2 xb0 xb1 xb2; obtain ⟨xa0, xa1, xa2⟩ := bx3 cA; obtain ⟨xb0, xb1, xb2⟩ := bx3 cB; rw [HAE.out] at xa0; rw [HBE.out] at xb0; clear gk)
          | (go_at_call 21; (with_reducible refine (kBB.out _ xb0).mono ?_); rintro q w2 ⟨rfl, gk⟩; replace gW := bstep gW gk; replace cA := bx_below cA gk; replace cB := bx_below cB gk; replace cC := bx_below cC gk; clear xa0 xa1 xa2 xb0 xb1 xb2; obtain ⟨xa0, xa1, xa2⟩ := bx3 cA; obtain ⟨xb0, xb1, xb2⟩ := bx3 cB; rw [HAE.out] at xa0; rw [HBE.out] at xb0; clear gk)
          | (go_at_call 21; (with_reducible refine (kLA.out _ xb0).mono ?_); rintro q w2 ⟨rfl, gk⟩; replace gW := bstep gW gk; replace cA := bx_below cA gk; replace cB := bx_below cB gk; replace cC := bx_below cC gk; clear xa0 xa1 xa2 xb0 xb1 xb2; obtain ⟨xa0, xa1, xa2⟩ := bx3 cA; obtain ⟨xb0, xb1, xb2⟩ := bx3 cB; rw [HAE.out] at xa0; rw [HBE.out] at xb0; clear gk)
          | (go_at_call 8; (with_reducible refine (awake11_any _).mono ?_); rintro q w5 ⟨rfl, g5⟩))
        go_ret
        exact ⟨rfl, bstep gW g5⟩
end Go.Proofs.Ytmaklneiedljjaa
